/- Texts of the law, joined. -/
import Derived.Test.YtblopbimchkneaaJ1
import Derived.Test.YtblopbimchkneaaSymK
import Derived.Test.YtblopbimchkneaaSymR
namespace Go.Proofs.Ytblopbimchkneaa.Md
open Go Go.Abs Go.Mth
set_option linter.unusedVariables false
set_option linter.unusedSimpArgs false
abbrev bytesV (hs : List Int) : List Value := hs.map (Value.int .u8)
/-- A tray's cells: three bytes, then eight, then six. -/
def trayV (a b c : Int) (hs : List Int) : List Value := .int .u8 a :: .int .u8 b :: .int .u8 c :: bytesV hs
structure NV where
  k : Nat
  v : Value
  l : List Nat
  Mx : HL
  n : Nat
theorem pow_le_62 {N : Nat} (h : N ≤ 61) : 2 ^ N < 2 ^ 62 := Nat.pow_lt_pow_right (by omega) (by omega)
theorem pow_lt_63 {N : Nat} (h : N ≤ 61) : 2 ^ N < 2 ^ 63 := Nat.pow_lt_pow_right (by omega) (by omega)
attribute [local irreducible] gOK WS WC WR WD Ends FS YS OpV seqK blockK loopK midK retK rdK asgK rangeEnd sat Cell

section
variable {M : HL} {n0 : Nat} {H : Heap}
end
end Go.Proofs.Ytblopbimchkneaa.Md

namespace Go.Proofs.Ytblopbimchkneaa.Md
open Go Go.Abs Go.Mth
set_option linter.unusedVariables false
set_option linter.unusedSimpArgs false
def bitN (c a : Nat) : Nat := if c.testBit a = true then 1 else 0
def kd (c a b : Nat) : Nat := bitN c a + 2 * bitN c b
/-- Which kinds of casts have been met. -/
def metB (ns : List Nat) (a b k i : Nat) : Bool := (ns.take k).any fun c => kd c a b == i
structure BL where
  k : Nat
  l : List Bool
attribute [local irreducible] gOK WS WC WR WD Ends FS YS OpV seqK blockK loopK midK retK rdK asgK rangeEnd sat Cell
section
variable {M : HL} {n0 : Nat} {H : Heap} {v : Value} {ns : List Nat}
end
end Go.Proofs.Ytblopbimchkneaa.Md

namespace Go.Proofs.Ytblopbimchkneaa.Md
open Go Go.Abs Go.Mth
set_option linter.unusedVariables false
set_option linter.unusedSimpArgs false
/-! Models. -/
def xorL (ns : List Nat) (m : Nat) : List Nat := ns.map fun c => c ^^^ m
def fourP (ns : List Nat) (a b : Nat) : Prop := ∀ p q : Bool, ∃ c ∈ ns, c.testBit a = p ∧ c.testBit b = q
theorem xorL_mem {ns : List Nat} {m x : Nat} : x ∈ xorL ns m ↔ ∃ c ∈ ns, c ^^^ m = x := by simp [xorL]
theorem xorL_lt {ns : List Nat} {m N : Nat} (h : ∀ x ∈ ns, x < 2 ^ N) (hm : m < 2 ^ N) : ∀ x ∈ xorL ns m, x < 2 ^ N := fun x hx => by
  obtain ⟨c, hc, rfl⟩ := xorL_mem.1 hx
  exact Nat.xor_lt_two_pow (h c hc) hm
/-- The first number of which something holds. -/
def LM (P : Nat → Bool) (B : Nat) (r : Int) : Prop := (∃ k : Nat, k < B ∧ P k = true ∧ (∀ j, j < k → P j = false) ∧ r = k) ∨ ((∀ j, j < B → P j = false) ∧ r = -1)
theorem LM.unique {P : Nat → Bool} {B : Nat} {r s : Int} (h : LM P B r) (h' : LM P B s) : r = s := by
  rcases h with ⟨k, h1, h2, h3, rfl⟩ | ⟨h1, rfl⟩ <;> rcases h' with ⟨k', g1, g2, g3, rfl⟩ | ⟨g1, rfl⟩
  · rcases Nat.lt_trichotomy k k' with h | h | h
    · rw [g3 k h] at h2; cases h2
    · rw [h]
    · rw [h3 k' h] at g2; cases g2
  · rw [g1 k h1] at h2; cases h2
  · rw [h1 k' g1] at g2; cases g2
  · rfl
def ModR (N : Nat) (ns : List Nat) (k e : Int) : Prop := ∃ r, LM (fun m => honB N (xorL ns m)) (2 ^ N) r ∧ k = (if r < 0 then 0 else r) ∧ e = if r < 0 then 12 else 0
attribute [local irreducible] gOK WS WC WR WD Ends FS YS OpV seqK blockK loopK midK retK rdK asgK rangeEnd sat Cell
section
variable {M : HL} {n0 : Nat} {H : Heap} {v : Value} {ns : List Nat}
theorem diffs_fs (hH : hasH M n0 H) (hS : Sl M 1 v (nodes ns)) (hl : ns.length ≤ 1000) (hb : ∀ x ∈ ns, x < 2 ^ 62) {m : Nat} (hm : m < 2 ^ 62) :
    FS C 77 [v, .int .i64 (m : Int)] H (fun e H' => ∃ Mx n', Own 3 1 e (nodes (xorL ns m)) Mx ∧ n0 ≤ n' ∧ hasH (Mx ++ M) n' H') := by
  refine FS.intro (pf := pf77) rfl rfl rfl ?_
  repeat' (first | refine zP ?_ | refine zA ?_ | (refine zM ?_; intro _ _) | refine zX ?_ | (refine zC ?_; intro _ _ _ _) | (refine zS ?_; intro _ _) | (apply Ws <;> intro hg))
  refine WC.loopX [(1, _), (8, _), (9, _)] (fun s : NV => [(5, s.v), (10, .int .i64 (s.k : Int))]) []
    (fun s H' => s.k ≤ ns.length ∧ n0 ≤ s.n ∧ Own 3 1 s.v (nodes (xorL (ns.take s.k) m)) s.Mx ∧ hasH (s.Mx ++ M) s.n H') (fun s => ns.length - s.k) ⟨0, .slice none 0 0, [], [], n0⟩ (by repeat' (first | exact .nil | refine .cons rfl ?_)) rfl
    ⟨Nat.zero_le _, Nat.le_refl _, .nil, hH⟩ ?_
  clear hH
  rintro ⟨k, w, _, Mx, n1⟩ H1 ⟨hk, hn1, hO, hH1⟩
  simp only at hk hn1 hO hH1
  have hS1 := hS.mono (M' := Mx ++ M) fun p hp => List.mem_append_right _ hp
  dsimp only [List.cons_append, List.nil_append]
  repeat' (first | refine zP ?_ | refine zA ?_ | (refine zM ?_; intro _ _) | refine zX ?_ | (refine zC ?_; intro _ _ _ _) | (refine zS ?_; intro _ _) | (apply Ws <;> intro hg))
  refine WC.condP rfl (fun hlt => ?_) (fun hlt => ?_)
  · have hk' : k < ns.length := by omega
    have hx := hb _ (getD_mem (a := 0) hk')
    repeat' (first | refine zP ?_ | refine zA ?_ | (refine zM ?_; intro _ _) | refine zX ?_ | (refine zC ?_; intro _ _ _ _) | (refine zS ?_; intro _ _) | (apply Ws <;> intro hg))
    refine WR.op (by first | exact gN | exact gS rfl) rfl (OpV.xorN rfl rfl (by show ns.getD k 0 < 2 ^ 63; omega) (by show m < 2 ^ 63; omega)) ?_
    refine WR.append1F [] Mx M rfl rfl rfl rfl hO hH1 (new := [.int .i64 ((ns.getD k 0 ^^^ m : Nat) : Int)]) (by rfl) rfl rfl (Nat.le_refl _) (by omega) (by simp [xorL]; omega) fun v3 M3 n3 H3 hO3 hH3 hn3 => ?_
    repeat' (first | refine zP ?_ | refine zA ?_ | (refine zM ?_; intro _ _) | refine zX ?_ | (refine zC ?_; intro _ _ _ _) | (refine zS ?_; intro _ _) | (apply Ws <;> intro hg))
    refine Ends.loop ⟨k + 1, v3, [], M3, n3⟩ (by show ns.length - (k + 1) < ns.length - k; omega) (by repeat' (first | exact .nil | refine .cons rfl ?_)) rfl ⟨hk', by simp only; omega, ?_, hH3⟩
    simp only
    rw [List.take_succ_eq_append_getElem hk', xorL, List.map_append, ← getD_eq (a := 0) hk']
    simpa [nodes, xorL] using hO3
  · have hkl : ns.length = k := by omega
    subst hkl
    rw [List.take_length] at hO
    repeat' (first | refine zP ?_ | refine zA ?_ | (refine zM ?_; intro _ _) | refine zX ?_ | (refine zC ?_; intro _ _ _ _) | (refine zS ?_; intro _ _) | (apply Ws <;> intro hg))
    exact Ends.ret1 rfl ⟨Mx, n1, hO, hn1, hH1⟩

theorem Model_fs (hH : hasH M n0 H) (hS : Sl M 1 v (nodes ns)) (hl : ns.length ≤ 8) {N : Nat} (hN1 : 1 ≤ N) (hN : N ≤ 6) (hb : ∀ x ∈ ns, x < 2 ^ N) :
    FS C 34 [.int .i64 (N : Int), v] H (fun e H' => ∃ k f, e = .tuple #[.int .i64 k, .int .i64 f] ∧ ModR N ns k f ∧ ∃ n', n0 ≤ n' ∧ hasH M n' H') := by
  have hSI : Sl M 1 v (ints (ns.map fun (x : Nat) => (x : Int))) := by rw [← nodesI]; exact hS
  have hb62 := lt_62 hN hb
  have hp62 := pow_le_62 (N := N) (by omega)
  have hp64 := pow_64 hN
  refine FS.intro (pf := pf34) rfl rfl rfl ?_
  repeat' (first | refine zP ?_ | refine zA ?_ | (refine zM ?_; intro _ _) | refine zX ?_ | (refine zC ?_; intro _ _ _ _) | (refine zS ?_; intro _ _) | (apply Ws <;> intro hg))
  refine WR.call (by first | exact gN | exact gS rfl) rfl rfl (Check_fs hH hSI (by simp; omega) _) ?_
  rintro _ H1 ⟨rfl, rfl⟩
  rw [casts_intro hN1 hN hl hb]
  clear hSI
  repeat' (first | refine zP ?_ | refine zA ?_ | (refine zM ?_; intro _ _) | refine zX ?_ | (refine zC ?_; intro _ _ _ _) | (refine zS ?_; intro _ _) | refine zO ?_ | (apply Ws <;> intro hg))
  refine WR.op (by first | exact gN | exact gS rfl) rfl (OpV.shl1 rfl rfl (by show N ≤ 64; omega) (pow_lt_63 (by omega))) ?_
  obtain ⟨B, hB⟩ : ∃ B, 2 ^ N = B := ⟨_, rfl⟩
  rw [hB] at hp62 hp64 ⊢
  repeat' (first | refine zP ?_ | refine zA ?_ | (refine zM ?_; intro _ _) | refine zX ?_ | (refine zC ?_; intro _ _ _ _) | (refine zS ?_; intro _ _) | (apply Ws <;> intro hg))
  refine WC.loopX [(0, _), (1, _), (15, _)] (fun s : Nat × Nat => [(16, .int .i64 (s.1 : Int))]) [] (fun s H' => s.1 ≤ B ∧ n0 ≤ s.2 ∧ hasH M s.2 H' ∧ ∀ j, j < s.1 → honB N (xorL ns j) = false) (fun s => B - s.1) (0, n0) (by repeat' (first | exact .nil | refine .cons rfl ?_)) rfl ⟨Nat.zero_le _, Nat.le_refl _, hH, fun x h => absurd h (Nat.not_lt_zero _)⟩ ?_
  clear hH
  rintro ⟨k, n1⟩ H2 ⟨hk, hn1, hH2, hno⟩
  simp only at hk hn1 hH2 hno
  dsimp only [List.cons_append, List.nil_append]
  repeat' (first | refine zP ?_ | refine zA ?_ | (refine zM ?_; intro _ _) | refine zX ?_ | (refine zC ?_; intro _ _ _ _) | (refine zS ?_; intro _ _) | (apply Ws <;> intro hg))
  refine WC.condP rfl (fun hlt => ?_) (fun hlt => ?_)
  · have hk' : k < B := by omega
    repeat' (first | refine zP ?_ | refine zA ?_ | (refine zM ?_; intro _ _) | refine zX ?_ | (refine zC ?_; intro _ _ _ _) | (refine zS ?_; intro _ _) | (apply Ws <;> intro hg))
    refine WR.call (by first | exact gN | exact gS rfl) rfl rfl (diffs_fs hH2 hS (by omega) hb62 (m := k) (by omega)) ?_
    rintro w H3 ⟨Mx, n3, hO, hn3, hH3⟩
    refine WR.call (by first | exact gN | exact gS rfl) rfl rfl (honest_fs hH3 (hO.sl M) (by simp [xorL]; omega) (lt_62 hN (xorL_lt hb (by omega))) (by omega)) ?_
    rintro _ H4 ⟨rfl, n4, hn4, hH4⟩
    have hH5 := hH4.sub (List.sublist_append_right Mx M)
    cases hh : honB N (xorL ns k) with
    | true =>
      repeat' (first | refine zP ?_ | refine zA ?_ | (refine zM ?_; intro _ _) | refine zX ?_ | (refine zC ?_; intro _ _ _ _) | (refine zS ?_; intro _ _) | (apply Ws <;> intro hg))
      exact Ends.ret2 rfl rfl ⟨_, _, rfl, ⟨(k : Int), .inl ⟨k, by omega, hh, hno, rfl⟩, by rw [if_neg (by omega)], by rw [if_neg (by omega)]⟩, n4, by omega, hH5⟩
    | false =>
      repeat' (first | refine zP ?_ | refine zA ?_ | (refine zM ?_; intro _ _) | refine zX ?_ | (refine zC ?_; intro _ _ _ _) | (refine zS ?_; intro _ _) | (apply Ws <;> intro hg))
      refine Ends.loop (k + 1, n4) (by show B - (k + 1) < B - k; omega) (by repeat' (first | exact .nil | refine .cons rfl ?_)) rfl ⟨hk', by simp only; omega, hH5, fun j hj => ?_⟩
      replace hj : j < k + 1 := hj
      rcases Nat.lt_or_ge j k with h | h
      · exact hno j h
      · have : j = k := by omega
        subst this; exact hh
  · have hkB : k = B := by omega
    repeat' (first | refine zP ?_ | refine zA ?_ | (refine zM ?_; intro _ _) | refine zX ?_ | (refine zC ?_; intro _ _ _ _) | (refine zS ?_; intro _ _) | (apply Ws <;> intro hg))
    exact Ends.ret2 rfl rfl ⟨_, _, rfl, ⟨-1, .inr ⟨fun j hj => hno j (by omega), rfl⟩, rfl, rfl⟩, n1, hn1, hH2⟩
end
end Go.Proofs.Ytblopbimchkneaa.Md

/- Comparisons of numbers and of lists. -/
namespace Go.Mth
set_option linter.unusedVariables false
def cmpI (a b : Int) : Int := if a < b then -1 else if b < a then 1 else 0
def lexC : List Int → List Int → Int
  | [], [] => 0
  | [], _ :: _ => -1
  | _ :: _, [] => 1
  | a :: l, b :: m => if cmpI a b ≠ 0 then cmpI a b else lexC l m
/-- The shorter one first; of those that are as long, the smaller one. -/
def ordC (a b : List Int) : Int := if cmpI a.length b.length ≠ 0 then cmpI a.length b.length else lexC a b
theorem cmp_neg {a b : Int} : cmpI b a = - cmpI a b := by unfold cmpI; split <;> split <;> (try split) <;> omega
theorem cmp_zero {a b : Int} : cmpI a b = 0 ↔ a = b := by unfold cmpI; split <;> (try split) <;> omega
theorem cmp_lt {a b : Int} : cmpI a b < 0 ↔ a < b := by unfold cmpI; split <;> (try split) <;> omega
theorem lex_neg : ∀ a b : List Int, lexC b a = - lexC a b
  | [], [] => rfl
  | [], _ :: _ => rfl
  | _ :: _, [] => rfl
  | a :: l, b :: m => by
    have h1 := cmp_neg (a := a) (b := b)
    have h2 := lex_neg l m
    simp only [lexC, h2]
    split <;> split <;> omega
theorem lex_zero : ∀ a b : List Int, lexC a b = 0 ↔ a = b
  | [], [] => by simp [lexC]
  | [], _ :: _ => by simp [lexC]
  | _ :: _, [] => by simp [lexC]
  | a :: l, b :: m => by
    have h1 := cmp_zero (a := a) (b := b)
    have h2 := lex_zero l m
    rw [lexC, List.cons.injEq]
    by_cases h : cmpI a b = 0
    · rw [if_neg (by simp [h]), h2, ← h1]; simp [h]
    · rw [if_pos h]; simp [h, ← h1]
theorem lex_trans : ∀ a b c : List Int, lexC a b < 0 → lexC b c < 0 → lexC a c < 0
  | [], [], _, h, _ => by simp [lexC] at h
  | [], _ :: _, [], _, h => by simp [lexC] at h
  | [], _ :: _, _ :: _, _, _ => by simp [lexC]
  | _ :: _, [], _, h, _ => by simp [lexC] at h
  | _ :: _, _ :: _, [], _, h => by simp [lexC] at h
  | a :: l, b :: m, c :: k, h1, h2 => by
    have e1 := cmp_zero (a := a) (b := b)
    have e2 := cmp_zero (a := b) (b := c)
    have e3 := cmp_zero (a := a) (b := c)
    have f1 := cmp_lt (a := a) (b := b)
    have f2 := cmp_lt (a := b) (b := c)
    have f3 := cmp_lt (a := a) (b := c)
    have h3 := lex_trans l m k
    simp only [lexC] at h1 h2 ⊢
    split at h1 <;> split at h2 <;> split <;> first | omega | exact h3 (by omega) (by omega)
theorem ord_neg (a b : List Int) : ordC b a = - ordC a b := by
  have h1 := cmp_neg (a := (a.length : Int)) (b := b.length)
  have h2 := lex_neg a b
  unfold ordC
  split <;> split <;> omega
theorem ord_zero (a b : List Int) : ordC a b = 0 ↔ a = b := by
  have h1 := cmp_zero (a := (a.length : Int)) (b := b.length)
  have h2 := lex_zero a b
  unfold ordC
  by_cases h : cmpI a.length b.length = 0
  · rw [if_neg (by simp [h]), h2]
  · rw [if_pos h]
    refine ⟨fun h3 => absurd h3 h, fun h3 => absurd (h1.2 (by rw [h3])) h⟩
theorem ord_trans {a b c : List Int} (h1 : ordC a b < 0) (h2 : ordC b c < 0) : ordC a c < 0 := by
  have e1 := cmp_zero (a := (a.length : Int)) (b := b.length)
  have e2 := cmp_zero (a := (b.length : Int)) (b := c.length)
  have e3 := cmp_zero (a := (a.length : Int)) (b := c.length)
  have f1 := cmp_lt (a := (a.length : Int)) (b := b.length)
  have f2 := cmp_lt (a := (b.length : Int)) (b := c.length)
  have f3 := cmp_lt (a := (a.length : Int)) (b := c.length)
  have h3 := lex_trans a b c
  unfold ordC at h1 h2 ⊢
  split at h1 <;> split at h2 <;> split <;> first | omega | exact h3 (by omega) (by omega)
end Go.Mth

namespace Go.Proofs.Ytblopbimchkneaa.Md
open Go Go.Abs Go.Mth
set_option linter.unusedVariables false
set_option linter.unusedSimpArgs false
/-! Sets as bits, and the least of them. -/
abbrev IL (l : List Nat) : List Int := l.map fun (x : Nat) => (x : Int)
def bitsL (s k : Nat) : List Nat := (List.range k).filter fun i => s.testBit i
theorem bits_yes {s k : Nat} (h : s.testBit k = true) : bitsL s (k + 1) = bitsL s k ++ [k] := by
  rw [bitsL, List.range_succ, List.filter_append, List.filter_cons_of_pos (by exact h)]; rfl
theorem bits_no {s k : Nat} (h : s.testBit k = false) : bitsL s (k + 1) = bitsL s k := by
  rw [bitsL, List.range_succ, List.filter_append, List.filter_cons_of_neg (by rw [h]; simp), List.filter_nil, List.append_nil]; rfl
theorem bits_len (s k : Nat) : (bitsL s k).length ≤ k := Nat.le_trans (List.length_filter_le _ _) (by simp)
theorem bits_more {s k : Nat} (h : s < 2 ^ k) : ∀ d, bitsL s (k + d) = bitsL s k
  | 0 => rfl
  | d + 1 => by rw [← Nat.add_assoc, bits_no (Nat.testBit_lt_two_pow (Nat.lt_of_lt_of_le h (Nat.pow_le_pow_right (by omega) (by omega)))), bits_more h d]
theorem bits_same {s k n : Nat} (h : s < 2 ^ k) (hn : s < 2 ^ n) : bitsL s k = bitsL s n := by
  rcases Nat.le_total k n with h1 | h1
  · obtain ⟨d, rfl⟩ := Nat.exists_eq_add_of_le h1
    exact (bits_more h d).symm
  · obtain ⟨d, rfl⟩ := Nat.exists_eq_add_of_le h1
    exact bits_more hn d
theorem mem_bits {s k i : Nat} : i ∈ bitsL s k ↔ i < k ∧ s.testBit i = true := by rw [bitsL, List.mem_filter, List.mem_range]
/-- The least of the sets of which something holds, as a list. -/
def LeastR (n : Nat) (P : Nat → Bool) (r : List Nat) : Prop := ∃ s, s < 2 ^ n ∧ P s = true ∧ r = bitsL s n ∧ ∀ t, t < 2 ^ n → P t = true → ¬ ordC (IL (bitsL t n)) (IL r) < 0
theorem IL_inj {l m : List Nat} (h : IL l = IL m) : l = m := by
  have : (IL l).map Int.toNat = (IL m).map Int.toNat := by rw [h]
  rwa [cast_toNat, cast_toNat] at this
theorem LeastR.unique {n : Nat} {P : Nat → Bool} {r q : List Nat} (h : LeastR n P r) (h' : LeastR n P q) : r = q := by
  obtain ⟨s, h1, h2, rfl, h4⟩ := h
  obtain ⟨t, g1, g2, rfl, g4⟩ := h'
  have e1 := h4 t g1 g2
  have e2 := g4 s h1 h2
  rw [ord_neg] at e1
  exact IL_inj ((ord_zero _ _).1 (by omega))
theorem ord_nil {l : List Int} : ¬ ordC l [] < 0 := by
  unfold ordC
  cases l with
  | nil => simp [cmpI, lexC]
  | cons a l =>
    have : cmpI ((a :: l).length : Int) (([] : List Int).length : Int) = 1 := by
      unfold cmpI; simp; omega
    rw [this]; simp
theorem LeastR.nil {n : Nat} {P : Nat → Bool} {r : List Nat} (h : LeastR n P r) : r = [] ↔ P 0 = true := by
  have hp := Nat.two_pow_pos n
  have h0 : bitsL 0 n = [] := by
    rw [bitsL, List.filter_eq_nil_iff]; intro a _; simp
  constructor
  · intro hr
    obtain ⟨s, h1, h2, h3, h4⟩ := h
    have : s = 0 := Nat.eq_of_testBit_eq fun i => by
      rw [Nat.zero_testBit]
      cases hb : s.testBit i with
      | false => rfl
      | true =>
        have hi : i < n := by
          rcases Nat.lt_or_ge i n with h5 | h5
          · exact h5
          · rw [Nat.testBit_lt_two_pow (Nat.lt_of_lt_of_le h1 (Nat.pow_le_pow_right (by omega) h5))] at hb; cases hb
        have : i ∈ bitsL s n := mem_bits.2 ⟨hi, hb⟩
        rw [← h3, hr] at this; cases this
    rw [← this]; exact h2
  · intro hP
    refine h.unique ⟨0, hp, hP, h0.symm, fun t _ _ => ?_⟩
    exact ord_nil
structure FW where
  k : Nat
  v : Value
  s : Nat
  Mx : HL
  n : Nat
attribute [local irreducible] gOK WS WC WR WD Ends FS YS OpV seqK blockK loopK midK retK rdK asgK rangeEnd sat Cell

section
variable {M : HL} {n0 : Nat} {H : Heap} {v w : Value}
theorem isNaN_fs (a : Int) (H : Heap) : FS C 92 [.int .i64 a] H (fun e H' => e = .bool false ∧ H' = H) := by
  refine FS.intro (pf := pf92) rfl rfl rfl ?_
  repeat' (first | refine zP ?_ | refine zA ?_ | (refine zM ?_; intro _ _) | refine zX ?_ | (refine zC ?_; intro _ _ _ _) | (refine zS ?_; intro _ _) | (apply Ws <;> intro hg))
  exact Ends.ret1 rfl ⟨by rw [decide_eq_false (by simp)], rfl⟩
theorem cmpI_fs (a b : Int) (H : Heap) : FS C 82 [.int .i64 a, .int .i64 b] H (fun e H' => e = .int .i64 (cmpI a b) ∧ H' = H) := by
  refine FS.intro (pf := pf82) rfl rfl rfl ?_
  repeat' (first | refine zP ?_ | refine zA ?_ | (refine zM ?_; intro _ _) | refine zX ?_ | (refine zC ?_; intro _ _ _ _) | (refine zS ?_; intro _ _) | (apply Ws <;> intro hg))
  refine WR.call (by first | exact gN | exact gS rfl) rfl rfl (isNaN_fs _ _) ?_
  rintro _ _ ⟨rfl, rfl⟩
  repeat' (first | refine zP ?_ | refine zA ?_ | (refine zM ?_; intro _ _) | refine zX ?_ | (refine zC ?_; intro _ _ _ _) | (refine zS ?_; intro _ _) | (apply Ws <;> intro hg))
  refine WR.call (by first | exact gN | exact gS rfl) rfl rfl (isNaN_fs _ _) ?_
  rintro _ _ ⟨rfl, rfl⟩
  repeat' (first | refine zP ?_ | refine zA ?_ | (refine zM ?_; intro _ _) | refine zX ?_ | (refine zC ?_; intro _ _ _ _) | (refine zS ?_; intro _ _) | (apply Ws <;> intro hg))
  refine WC.condP rfl (fun h1 => ?_) (fun h1 => ?_)
  · repeat' (first | refine zP ?_ | refine zA ?_ | (refine zM ?_; intro _ _) | refine zX ?_ | (refine zC ?_; intro _ _ _ _) | (refine zS ?_; intro _ _) | (apply Ws <;> intro hg))
    exact Ends.ret1 rfl ⟨by rw [cmpI, if_pos h1], rfl⟩
  · repeat' (first | refine zP ?_ | refine zA ?_ | (refine zM ?_; intro _ _) | refine zX ?_ | (refine zC ?_; intro _ _ _ _) | (refine zS ?_; intro _ _) | (apply Ws <;> intro hg))
    refine WC.condP rfl (fun h2 => ?_) (fun h2 => ?_)
    · repeat' (first | refine zP ?_ | refine zA ?_ | (refine zM ?_; intro _ _) | refine zX ?_ | (refine zC ?_; intro _ _ _ _) | (refine zS ?_; intro _ _) | (apply Ws <;> intro hg))
      exact Ends.ret1 rfl ⟨by rw [cmpI, if_neg h1, if_pos h2], rfl⟩
    · repeat' (first | refine zP ?_ | refine zA ?_ | (refine zM ?_; intro _ _) | refine zX ?_ | (refine zC ?_; intro _ _ _ _) | (refine zS ?_; intro _ _) | (apply Ws <;> intro hg))
      exact Ends.ret1 rfl ⟨by rw [cmpI, if_neg h1, if_neg h2], rfl⟩
theorem Or_fs (hH : hasH M n0 H) {x y : Int} (hS : Sl M 1 v (ints [x, y])) : FS C 90 [v] H (fun e H' => e = .int .i64 (if x ≠ 0 then x else y) ∧ H' = H) := by
  refine FS.intro (pf := pf90) rfl rfl rfl ?_
  repeat' (first | refine zP ?_ | refine zA ?_ | (refine zM ?_; intro _ _) | refine zX ?_ | (refine zC ?_; intro _ _ _ _) | (refine zS ?_; intro _ _) | (apply Ws <;> intro hg))
  have h2 : [x, y].length = 2 := rfl
  refine WC.loopX [(3, .int .i64 0), (6, _), (7, _)] (fun k : Nat => [(8, .int .i64 (k : Int))]) [] (fun k H' => H' = H ∧ k ≤ 2 ∧ (1 ≤ k → x = 0) ∧ (2 ≤ k → y = 0)) (fun k => 2 - k) 0 (by repeat' (first | exact .nil | refine .cons rfl ?_)) rfl ⟨rfl, by omega, fun h => by omega, fun h => by omega⟩ ?_
  rintro k _ ⟨rfl, hk, hx, hy⟩
  dsimp only [List.cons_append, List.nil_append]
  repeat' (first | refine zP ?_ | refine zA ?_ | (refine zM ?_; intro _ _) | refine zX ?_ | (refine zC ?_; intro _ _ _ _) | (refine zS ?_; intro _ _) | (apply Ws <;> intro hg))
  refine WC.condP rfl (fun hlt => ?_) (fun hlt => ?_)
  · have hk' : k < 2 := by omega
    repeat' (first | refine zP ?_ | refine zA ?_ | (refine zM ?_; intro _ _) | refine zX ?_ | (refine zC ?_; intro _ _ _ _) | (refine zS ?_; intro _ _) | (apply Ws <;> intro hg))
    have hq : [x, y].getD k 0 = if k = 0 then x else y := by
      rcases (show k = 0 ∨ k = 1 by omega) with rfl | rfl <;> rfl
    rw [hq]
    refine WC.condP rfl (fun hne => ?_) (fun hne => ?_)
    · repeat' (first | refine zP ?_ | refine zA ?_ | (refine zM ?_; intro _ _) | refine zX ?_ | (refine zC ?_; intro _ _ _ _) | (refine zS ?_; intro _ _) | (apply Ws <;> intro hg))
      refine Ends.ret1 rfl ⟨?_, rfl⟩
      by_cases h : k = 0
      · rw [if_pos h] at hne ⊢; rw [if_pos hne]
      · rw [if_neg h, hx (by omega)]; simp
    · repeat' (first | refine zP ?_ | refine zA ?_ | (refine zM ?_; intro _ _) | refine zX ?_ | (refine zC ?_; intro _ _ _ _) | (refine zS ?_; intro _ _) | (apply Ws <;> intro hg))
      refine Ends.loop (k + 1) (by omega) (by repeat' (first | exact .nil | refine .cons rfl ?_)) rfl ⟨rfl, by omega, fun h => ?_, fun h => ?_⟩
      · by_cases h : k = 0
        · rw [if_pos h] at hne; exact Decidable.not_not.1 hne
        · exact hx (by omega)
      · rw [if_neg (by omega)] at hne; exact Decidable.not_not.1 hne
  · have hk2 : k = 2 := by omega
    subst hk2
    repeat' (first | refine zP ?_ | refine zA ?_ | (refine zM ?_; intro _ _) | refine zX ?_ | (refine zC ?_; intro _ _ _ _) | (refine zS ?_; intro _ _) | (apply Ws <;> intro hg))
    exact Ends.ret1 rfl ⟨by rw [hx (by omega), hy (by omega)]; rfl, rfl⟩

theorem Compare_fs (hH : hasH M n0 H) {xs ys : List Int} (hS : Sl M 1 v (ints xs)) (hU : Sl M 1 w (ints ys)) (hx : xs.length ≤ 1000) (hy : ys.length ≤ 1000) :
    FS C 44 [v, w] H (fun e H' => e = .int .i64 (lexC xs ys) ∧ H' = H) := by
  refine FS.intro (pf := pf44) rfl rfl rfl ?_
  repeat' (first | refine zP ?_ | refine zA ?_ | (refine zM ?_; intro _ _) | refine zX ?_ | (refine zC ?_; intro _ _ _ _) | (refine zS ?_; intro _ _) | (apply Ws <;> intro hg))
  refine WC.loopX [(0, _), (1, _), (9, _), (10, _)] (fun k : Nat => [(11, .int .i64 (k : Int))]) [] (fun k H' => H' = H ∧ k ≤ xs.length ∧ k ≤ ys.length ∧ lexC xs ys = lexC (xs.drop k) (ys.drop k)) (fun k => xs.length - k) 0 (by repeat' (first | exact .nil | refine .cons rfl ?_)) rfl ⟨rfl, Nat.zero_le _, Nat.zero_le _, rfl⟩ ?_
  rintro k _ ⟨rfl, hk, hk2, hL⟩
  dsimp only [List.cons_append, List.nil_append]
  repeat' (first | refine zP ?_ | refine zA ?_ | (refine zM ?_; intro _ _) | refine zX ?_ | (refine zC ?_; intro _ _ _ _) | (refine zS ?_; intro _ _) | (apply Ws <;> intro hg))
  refine WC.condP rfl (fun hlt => ?_) (fun hlt => ?_)
  · have hk' : k < xs.length := by omega
    rw [List.drop_eq_getElem_cons hk'] at hL
    repeat' (first | refine zP ?_ | refine zA ?_ | (refine zM ?_; intro _ _) | refine zX ?_ | (refine zC ?_; intro _ _ _ _) | (refine zS ?_; intro _ _) | (apply Ws <;> intro hg))
    refine WC.condP rfl (fun hge => ?_) (fun hge => ?_)
    · have hke : k = ys.length := by omega
      repeat' (first | refine zP ?_ | refine zA ?_ | (refine zM ?_; intro _ _) | refine zX ?_ | (refine zC ?_; intro _ _ _ _) | (refine zS ?_; intro _ _) | (apply Ws <;> intro hg))
      refine Ends.ret1 rfl ⟨?_, rfl⟩
      rw [hL, show ys.drop k = [] from List.drop_eq_nil_of_le (by omega)]; rfl
    · have hk3 : k < ys.length := by omega
      rw [List.drop_eq_getElem_cons hk3, lexC, ← getD_eq (a := 0) hk', ← getD_eq (a := 0) hk3] at hL
      repeat' (first | refine zP ?_ | refine zA ?_ | (refine zM ?_; intro _ _) | refine zX ?_ | (refine zC ?_; intro _ _ _ _) | (refine zS ?_; intro _ _) | (apply Ws <;> intro hg))
      refine WR.call (by first | exact gN | exact gS rfl) rfl rfl (cmpI_fs _ _ _) ?_
      rintro _ _ ⟨rfl, rfl⟩
      repeat' (first | refine zP ?_ | refine zA ?_ | (refine zM ?_; intro _ _) | refine zX ?_ | (refine zC ?_; intro _ _ _ _) | (refine zS ?_; intro _ _) | (apply Ws <;> intro hg))
      refine WC.condP rfl (fun hne => ?_) (fun hne => ?_)
      · repeat' (first | refine zP ?_ | refine zA ?_ | (refine zM ?_; intro _ _) | refine zX ?_ | (refine zC ?_; intro _ _ _ _) | (refine zS ?_; intro _ _) | (apply Ws <;> intro hg))
        exact Ends.ret1 rfl ⟨by rw [hL, if_pos hne], rfl⟩
      · repeat' (first | refine zP ?_ | refine zA ?_ | (refine zM ?_; intro _ _) | refine zX ?_ | (refine zC ?_; intro _ _ _ _) | (refine zS ?_; intro _ _) | (apply Ws <;> intro hg))
        exact Ends.loop (k + 1) (by omega) (by repeat' (first | exact .nil | refine .cons rfl ?_)) rfl ⟨rfl, by omega, by omega, by rw [hL, if_neg hne]⟩
  · have hkl : k = xs.length := by omega
    rw [show xs.drop k = [] from List.drop_eq_nil_of_le (by omega)] at hL
    repeat' (first | refine zP ?_ | refine zA ?_ | (refine zM ?_; intro _ _) | refine zX ?_ | (refine zC ?_; intro _ _ _ _) | (refine zS ?_; intro _ _) | (apply Ws <;> intro hg))
    refine WC.condP rfl (fun h3 => ?_) (fun h3 => ?_)
    · rw [List.drop_eq_getElem_cons (show k < ys.length by omega)] at hL
      repeat' (first | refine zP ?_ | refine zA ?_ | (refine zM ?_; intro _ _) | refine zX ?_ | (refine zC ?_; intro _ _ _ _) | (refine zS ?_; intro _ _) | (apply Ws <;> intro hg))
      exact Ends.ret1 rfl ⟨by rw [hL]; rfl, rfl⟩
    · rw [show ys.drop k = [] from List.drop_eq_nil_of_le (by omega)] at hL
      repeat' (first | refine zP ?_ | refine zA ?_ | (refine zM ?_; intro _ _) | refine zX ?_ | (refine zC ?_; intro _ _ _ _) | (refine zS ?_; intro _ _) | (apply Ws <;> intro hg))
      exact Ends.ret1 rfl ⟨by rw [hL]; rfl, rfl⟩

theorem numbersOf_fs (hH : hasH M n0 H) {s n : Nat} (hs : s < 2 ^ n) (hn : n ≤ 61) :
    FS C 89 [.int .i64 (s : Int)] H (fun e H' => ∃ Mx n', Own 3 1 e (nodes (bitsL s n)) Mx ∧ n0 ≤ n' ∧ hasH (Mx ++ M) n' H') := by
  have hs62 : s < 2 ^ 62 := Nat.lt_of_lt_of_le hs (Nat.pow_le_pow_right (by omega) (by omega))
  refine FS.intro (pf := pf89) rfl rfl rfl ?_
  repeat' (first | refine zP ?_ | refine zA ?_ | (refine zM ?_; intro _ _) | refine zX ?_ | (refine zC ?_; intro _ _ _ _) | (refine zS ?_; intro _ _) | (apply Ws <;> intro hg))
  refine WC.loopX [(0, _)] (fun s : NV => [(3, s.v), (4, .int .i64 (s.k : Int))]) []
    (fun z H' => z.k ≤ n ∧ n0 ≤ z.n ∧ Own 3 1 z.v (nodes (bitsL s z.k)) z.Mx ∧ hasH (z.Mx ++ M) z.n H') (fun z => n - z.k) ⟨0, .slice none 0 0, [], [], n0⟩ (by repeat' (first | exact .nil | refine .cons rfl ?_)) rfl
    ⟨Nat.zero_le _, Nat.le_refl _, .nil, hH⟩ ?_
  clear hH
  rintro ⟨k, w, _, Mx, n1⟩ H1 ⟨hk, hn1, hO, hH1⟩
  simp only at hk hn1 hO hH1
  dsimp only [List.cons_append, List.nil_append]
  repeat' (first | refine zP ?_ | refine zA ?_ | (refine zM ?_; intro _ _) | refine zX ?_ | (refine zC ?_; intro _ _ _ _) | (refine zS ?_; intro _ _) | (apply Ws <;> intro hg))
  refine WR.op (by first | exact gN | exact gS rfl) rfl (OpV.shrN rfl rfl (by show k ≤ 64; omega)) ?_
  obtain ⟨z, hz⟩ : ∃ z, s >>> k = z := ⟨_, rfl⟩
  rw [hz]
  repeat' (first | refine zP ?_ | refine zA ?_ | (refine zM ?_; intro _ _) | refine zX ?_ | (refine zC ?_; intro _ _ _ _) | (refine zS ?_; intro _ _) | (apply Ws <;> intro hg))
  refine WC.condP rfl (fun hlt => ?_) (fun hlt => ?_)
  · have hk' : k < n := by
      rcases Nat.lt_or_ge k n with h | h
      · exact h
      · have : s >>> k = 0 := Nat.shiftRight_eq_zero _ _ (Nat.lt_of_lt_of_le hs (Nat.pow_le_pow_right (by omega) h))
        omega
    repeat' (first | refine zP ?_ | refine zA ?_ | (refine zM ?_; intro _ _) | refine zX ?_ | (refine zC ?_; intro _ _ _ _) | (refine zS ?_; intro _ _) | (apply Ws <;> intro hg))
    refine WR.call (by first | exact gN | exact gS rfl) rfl rfl (has_fs hs62 (by omega) _) ?_
    rintro _ H2 ⟨rfl, rfl⟩
    cases hb : s.testBit k with
    | true =>
      repeat' (first | refine zP ?_ | refine zA ?_ | (refine zM ?_; intro _ _) | refine zX ?_ | (refine zC ?_; intro _ _ _ _) | (refine zS ?_; intro _ _) | (apply Ws <;> intro hg))
      refine WR.append1F [] Mx M rfl rfl rfl rfl hO hH1 (new := [.int .i64 (k : Int)]) (by rfl) rfl rfl (Nat.le_refl _) (by omega) (by have := bits_len s k; simp; omega) fun v3 M3 n3 H3 hO3 hH3 hn3 => ?_
      repeat' (first | refine zP ?_ | refine zA ?_ | (refine zM ?_; intro _ _) | refine zX ?_ | (refine zC ?_; intro _ _ _ _) | (refine zS ?_; intro _ _) | (apply Ws <;> intro hg))
      refine Ends.loop ⟨k + 1, v3, [], M3, n3⟩ (by show n - (k + 1) < n - k; omega) (by repeat' (first | exact .nil | refine .cons rfl ?_)) rfl ⟨hk', by simp only; omega, ?_, hH3⟩
      simp only
      rw [bits_yes hb]
      simpa [nodes] using hO3
    | false =>
      repeat' (first | refine zP ?_ | refine zA ?_ | (refine zM ?_; intro _ _) | refine zX ?_ | (refine zC ?_; intro _ _ _ _) | (refine zS ?_; intro _ _) | (apply Ws <;> intro hg))
      refine Ends.loop ⟨k + 1, w, [], Mx, n1⟩ (by show n - (k + 1) < n - k; omega) (by repeat' (first | exact .nil | refine .cons rfl ?_)) rfl ⟨hk', hn1, ?_, hH1⟩
      simp only
      rw [bits_no hb]; exact hO
  · have hz0 : s >>> k = 0 := by omega
    have hsk : s < 2 ^ k := by
      rw [Nat.shiftRight_eq_div_pow] at hz0
      exact Nat.lt_of_div_eq_zero (Nat.two_pow_pos k) hz0
    rw [bits_same hsk hs] at hO
    repeat' (first | refine zP ?_ | refine zA ?_ | (refine zM ?_; intro _ _) | refine zX ?_ | (refine zC ?_; intro _ _ _ _) | (refine zS ?_; intro _ _) | (apply Ws <;> intro hg))
    exact Ends.ret1 rfl ⟨Mx, n1, hO, hn1, hH1⟩
end
end Go.Proofs.Ytblopbimchkneaa.Md

namespace Go.Proofs.Ytblopbimchkneaa.Md
open Go Go.Abs Go.Mth
set_option linter.unusedVariables false
set_option linter.unusedSimpArgs false
def leaveTo (ns : List Nat) (s k : Nat) : List Nat := ((List.range k).filter fun i => !s.testBit i).map fun i => ns.getD i 0
def leave (ns : List Nat) (s : Nat) : List Nat := leaveTo ns s ns.length
def wearL (ns : List Nat) (s : Nat) : List Nat := ns.map fun c => c ^^^ (c &&& s)
theorem leave_yes {ns : List Nat} {s k : Nat} (h : s.testBit k = false) : leaveTo ns s (k + 1) = leaveTo ns s k ++ [ns.getD k 0] := by
  rw [leaveTo, List.range_succ, List.filter_append, List.filter_cons_of_pos (by simp [h]), List.map_append]; rfl
theorem leave_no {ns : List Nat} {s k : Nat} (h : s.testBit k = true) : leaveTo ns s (k + 1) = leaveTo ns s k := by
  rw [leaveTo, List.range_succ, List.filter_append, List.filter_cons_of_neg (by simp [h]), List.filter_nil, List.append_nil]; rfl
theorem leave_len (ns : List Nat) (s k : Nat) : (leaveTo ns s k).length ≤ k := by
  rw [leaveTo, List.length_map]; exact Nat.le_trans (List.length_filter_le _ _) (by simp)
theorem leave_mem {ns : List Nat} {s x : Nat} (h : x ∈ leave ns s) : x ∈ ns := by
  obtain ⟨i, hi, rfl⟩ := List.mem_map.1 h
  exact getD_mem (List.mem_range.1 (List.mem_filter.1 hi).1)
theorem wear_lt {ns : List Nat} {s N : Nat} (h : ∀ x ∈ ns, x < 2 ^ N) : ∀ x ∈ wearL ns s, x < 2 ^ N := fun x hx => by
  obtain ⟨c, hc, rfl⟩ := List.mem_map.1 hx
  exact Nat.xor_lt_two_pow (h c hc) (Nat.lt_of_le_of_lt Nat.and_le_left (h c hc))
theorem full_bit {n i : Nat} (h : i < n) : (2 ^ n - 1).testBit i = true := by rw [Nat.testBit_two_pow_sub_one]; simpa using h
theorem leave_all (ns : List Nat) : leave ns (2 ^ ns.length - 1) = [] := by
  unfold leave leaveTo
  rw [List.map_eq_nil_iff, List.filter_eq_nil_iff]
  intro i hi
  rw [full_bit (List.mem_range.1 hi)]; simp
theorem hon_nil (N : Nat) : honB N [] = true := hon_iff.2 fun a b _ _ => rfl
theorem hon_zero {N : Nat} {l : List Nat} (h : ∀ x ∈ l, x = 0) : honB N l = true := hon_iff.2 fun a b _ _ => by
  cases hc : clashB l a b with
  | false => rfl
  | true =>
    obtain ⟨⟨c, hc, h1, _⟩, _⟩ := clash_iff.1 hc
    rw [h c hc, Nat.zero_testBit] at h1; cases h1
theorem wear_all {ns : List Nat} {N : Nat} (h : ∀ x ∈ ns, x < 2 ^ N) : honB N (wearL ns (2 ^ N - 1)) = true := hon_zero fun x hx => by
  obtain ⟨c, hc, rfl⟩ := List.mem_map.1 hx
  rw [Nat.and_two_pow_sub_one_of_lt_two_pow (h c hc), Nat.xor_self]
def forgP (N : Nat) (ns : List Nat) (s : Nat) : Bool := honB N (leave ns s)
def wornP (N : Nat) (ns : List Nat) (s : Nat) : Bool := honB N (wearL ns s)
theorem forg_all (N : Nat) (ns : List Nat) : forgP N ns (2 ^ ns.length - 1) = true := by rw [forgP, leave_all, hon_nil]
theorem worn_all {N : Nat} {ns : List Nat} (h : ∀ x ∈ ns, x < 2 ^ N) : wornP N ns (2 ^ N - 1) = true := wear_all h
attribute [local irreducible] gOK WS WC WR WD Ends FS YS OpV seqK blockK loopK midK retK rdK asgK rangeEnd sat Cell

section
variable {M : HL} {n0 : Nat} {H : Heap} {v w : Value} {ns : List Nat}
set_option maxHeartbeats 1000000 in
theorem fewest_fs {g : FuncId} {vb : List Value} (hH : hasH M n0 H) {n : Nat} (hn : n ≤ 8) {P : Nat → Bool} (hall : P (2 ^ n - 1) = true)
    (hR : ∀ s M' n1 H1, s < 2 ^ n → (∀ p ∈ M, p ∈ M') → hasH M' n1 H1 → FS C g ([] ++ [.int .i64 (s : Int)] ++ vb) H1 (fun e H' => e = .bool (P s) ∧ ∃ n', n1 ≤ n' ∧ hasH M' n' H')) :
    FS C 69 [.int .i64 (n : Int), .func (.func g) #[] vb.toArray] H (fun e H' => ∃ r Mx n', LeastR n P r ∧ Own 3 1 e (nodes r) Mx ∧ n0 ≤ n' ∧ hasH (Mx ++ M) n' H') := by
  have hB1 : 1 ≤ 2 ^ n := Nat.two_pow_pos n
  have hB256 : 2 ^ n ≤ 256 := Nat.pow_le_pow_right (n := 2) (by omega) hn
  have hp63 := pow_lt_63 (N := n) (by omega)
  refine FS.intro (pf := pf69) rfl rfl rfl ?_
  repeat' (first | refine zP ?_ | refine zA ?_ | (refine zM ?_; intro _ _) | refine zX ?_ | (refine zC ?_; intro _ _ _ _) | (refine zS ?_; intro _ _) | (apply Ws <;> intro hg))
  refine WR.op (by first | exact gN | exact gS rfl) rfl (OpV.shl1 rfl rfl (by show n ≤ 64; omega) hp63) ?_
  obtain ⟨B, hB⟩ : ∃ B, 2 ^ n = B := ⟨_, rfl⟩
  have hlt : ∀ {s}, s < B → s < 2 ^ n := fun h => by omega
  rw [hB] at hall hB1 hB256 hp63 ⊢
  simp only [hB] at hR
  repeat' (first | refine zP ?_ | refine zA ?_ | (refine zM ?_; intro _ _) | refine zX ?_ | (refine zC ?_; intro _ _ _ _) | (refine zS ?_; intro _ _) | (apply Ws <;> intro hg))
  rw [show (B : Int) - 1 = ((B - 1 : Nat) : Int) by omega]
  refine WR.call (by first | exact gN | exact gS rfl) rfl rfl (numbersOf_fs hH (hlt (s := B - 1) (by omega)) (by omega)) ?_
  rintro v0 H1 ⟨Mx, n1, hO, hn1, hH1⟩
  repeat' (first | refine zP ?_ | refine zA ?_ | (refine zM ?_; intro _ _) | refine zX ?_ | (refine zC ?_; intro _ _ _ _) | (refine zS ?_; intro _ _) | (apply Ws <;> intro hg))
  refine WR.op (by first | exact gN | exact gS rfl) rfl (OpV.shl1 rfl rfl (by show n ≤ 64; omega) (by rw [hB]; exact hp63)) ?_
  rw [hB]
  repeat' (first | refine zP ?_ | refine zA ?_ | (refine zM ?_; intro _ _) | refine zX ?_ | (refine zC ?_; intro _ _ _ _) | (refine zS ?_; intro _ _) | (apply Ws <;> intro hg))
  refine WC.loopX [(0, _), (1, _), (14, _)] (fun s : FW => [(5, s.v), (15, .int .i64 (s.k : Int))]) []
    (fun z H' => z.k ≤ B ∧ n0 ≤ z.n ∧ z.s < B ∧ P z.s = true ∧ Own 3 1 z.v (nodes (bitsL z.s n)) z.Mx ∧ hasH (z.Mx ++ M) z.n H' ∧ ∀ t, t < z.k → P t = true → ¬ ordC (IL (bitsL t n)) (IL (bitsL z.s n)) < 0) (fun z => B - z.k) ⟨0, v0, B - 1, Mx, n1⟩ (by repeat' (first | exact .nil | refine .cons rfl ?_)) rfl
    ⟨Nat.zero_le _, hn1, by simp only; omega, hall, hO, hH1, fun t h => absurd h (Nat.not_lt_zero _)⟩ ?_
  clear hH1 hO hn1
  rintro ⟨k, bv, s, Mx, n1⟩ H1 ⟨hk, hn1, hs, hPs, hO, hH1, hmin⟩
  simp only at hk hn1 hs hPs hO hH1 hmin
  dsimp only [List.cons_append, List.nil_append]
  repeat' (first | refine zP ?_ | refine zA ?_ | (refine zM ?_; intro _ _) | refine zX ?_ | (refine zC ?_; intro _ _ _ _) | (refine zS ?_; intro _ _) | (apply Ws <;> intro hg))
  refine WC.condP rfl (fun hlt1 => ?_) (fun hlt1 => ?_)
  · have hk' : k < B := by omega
    repeat' (first | refine zP ?_ | refine zA ?_ | (refine zM ?_; intro _ _) | refine zX ?_ | (refine zC ?_; intro _ _ _ _) | (refine zS ?_; intro _ _) | (apply Ws <;> intro hg))
    refine WR.call (by first | exact gN | exact gS rfl) rfl rfl (numbersOf_fs hH1 (hlt hk') (by omega)) ?_
    rintro wv H2 ⟨Mn, n2, hOn, hn2, hH2⟩
    have hSn := hOn.sl (Mx ++ M)
    have hSb := (hO.sl M).mono (M' := Mn ++ (Mx ++ M)) fun p hp => List.mem_append_right _ hp
    have hl1 := bits_len k n
    have hl2 := bits_len s n
    repeat' (first | refine zP ?_ | refine zA ?_ | (refine zM ?_; intro _ _) | refine zX ?_ | (refine zC ?_; intro _ _ _ _) | (refine zS ?_; intro _ _) | (apply Ws <;> intro hg))
    refine WR.call (by first | exact gN | exact gS rfl) rfl rfl (cmpI_fs _ _ _) ?_
    rintro _ _ ⟨rfl, rfl⟩
    repeat' (first | refine zP ?_ | refine zA ?_ | (refine zM ?_; intro _ _) | refine zX ?_ | (refine zC ?_; intro _ _ _ _) | (refine zS ?_; intro _ _) | (apply Ws <;> intro hg))
    refine WR.call (by first | exact gN | exact gS rfl) rfl rfl (Compare_fs hH2 (xs := IL (bitsL k n)) (ys := IL (bitsL s n)) (by rw [← nodesI]; exact hSn) (by rw [← nodesI]; exact hSb) (by simp; omega) (by simp; omega)) ?_
    rintro _ _ ⟨rfl, rfl⟩
    have hord : ordC (IL (bitsL k n)) (IL (bitsL s n)) = if cmpI ((bitsL k n).length : Int) ((bitsL s n).length : Int) ≠ 0 then cmpI ((bitsL k n).length : Int) ((bitsL s n).length : Int) else lexC (IL (bitsL k n)) (IL (bitsL s n)) := by
      unfold ordC; rw [List.length_map, List.length_map]
    obtain ⟨x, hx⟩ : ∃ x, cmpI ((bitsL k n).length : Int) ((bitsL s n).length : Int) = x := ⟨_, rfl⟩
    obtain ⟨y, hy⟩ : ∃ y, lexC (IL (bitsL k n)) (IL (bitsL s n)) = y := ⟨_, rfl⟩
    rw [hx, hy] at hord ⊢
    refine WR.bldS (by first | exact gN | exact gS rfl) rfl hH2 (vs := [(0, .int .i64 x), (1, .int .i64 y)]) rfl (cs := [.int .i64 x, .int .i64 y]) (by rfl) rfl fun H3 hH3 => ?_
    refine WR.call (by first | exact gN | exact gS rfl) rfl rfl (Or_fs hH3 (x := x) (y := y) (.row (lo := 0) (cs := [.int .i64 x, .int .i64 y]) (.head _) (.row _ _ _ _) (Nat.zero_le _) rfl rfl (by simp) (.inr ⟨2, rfl, Nat.le_refl _⟩))) ?_
    rintro _ _ ⟨rfl, rfl⟩
    rw [← hord]
    replace hH3 := hH3.tail
    clear hH2 hx hy hord
    obtain ⟨o, ho⟩ : ∃ o, ordC (IL (bitsL k n)) (IL (bitsL s n)) = o := ⟨_, rfl⟩
    rw [ho]
    have hkeep : P k = false ∨ ¬ o < 0 → ∀ t, t < k + 1 → P t = true → ¬ ordC (IL (bitsL t n)) (IL (bitsL s n)) < 0 := fun h t ht hPt => by
      rcases Nat.lt_or_ge t k with h1 | h1
      · exact hmin t h1 hPt
      · have : t = k := by omega
        subst this
        rcases h with h | h
        · rw [h] at hPt; cases hPt
        · rw [ho]; exact h
    have hdrop := hH3.sub (List.sublist_append_right Mn (Mx ++ M))
    by_cases hbef : o < 0
    · repeat' (first | refine zP ?_ | refine zA ?_ | (refine zM ?_; intro _ _) | refine zX ?_ | (refine zC ?_; intro _ _ _ _) | (refine zS ?_; intro _ _) | refine zO ?_ | (apply Ws <;> intro hg))
      refine WR.callV (by first | exact gN | exact gS rfl) rfl rfl rfl (hR k _ _ _ hk' (fun p hp => List.mem_append_right _ (List.mem_append_right _ hp)) hH3) ?_
      rintro _ H4 ⟨rfl, n4, hn4, hH4⟩
      cases hPk : P k with
      | true =>
        repeat' (first | refine zP ?_ | refine zA ?_ | (refine zM ?_; intro _ _) | refine zX ?_ | (refine zC ?_; intro _ _ _ _) | (refine zS ?_; intro _ _) | (apply Ws <;> intro hg))
        refine Ends.loop ⟨k + 1, wv, k, Mn, n4⟩ (by show B - (k + 1) < B - k; omega) (by repeat' (first | exact .nil | refine .cons rfl ?_)) rfl ⟨hk', by simp only; omega, hk', hPk, hOn, hH4.sub (List.Sublist.append_left (List.sublist_append_right Mx M) Mn), fun t ht hPt h => ?_⟩
        replace ht : t < k + 1 := ht
        simp only at h
        rcases Nat.lt_or_ge t k with h1 | h1
        · exact hmin t h1 hPt (ord_trans h (by rw [ho]; exact hbef))
        · have : t = k := by omega
          subst this
          rw [(ord_zero _ _).2 rfl] at h; omega
      | false =>
        repeat' (first | refine zP ?_ | refine zA ?_ | (refine zM ?_; intro _ _) | refine zX ?_ | (refine zC ?_; intro _ _ _ _) | (refine zS ?_; intro _ _) | (apply Ws <;> intro hg))
        exact Ends.loop ⟨k + 1, bv, s, Mx, n4⟩ (by show B - (k + 1) < B - k; omega) (by repeat' (first | exact .nil | refine .cons rfl ?_)) rfl ⟨hk', by simp only; omega, hs, hPs, hO, hH4.sub (List.sublist_append_right Mn (Mx ++ M)), hkeep (.inl hPk)⟩
    · repeat' (first | refine zP ?_ | refine zA ?_ | (refine zM ?_; intro _ _) | refine zX ?_ | (refine zC ?_; intro _ _ _ _) | (refine zS ?_; intro _ _) | refine zO ?_ | (apply Ws <;> intro hg))
      exact Ends.loop ⟨k + 1, bv, s, Mx, n2 + 1⟩ (by show B - (k + 1) < B - k; omega) (by repeat' (first | exact .nil | refine .cons rfl ?_)) rfl ⟨hk', by simp only; omega, hs, hPs, hO, hdrop, hkeep (.inr hbef)⟩
  · have hkB : k = B := by omega
    repeat' (first | refine zP ?_ | refine zA ?_ | (refine zM ?_; intro _ _) | refine zX ?_ | (refine zC ?_; intro _ _ _ _) | (refine zS ?_; intro _ _) | (apply Ws <;> intro hg))
    exact Ends.ret1 rfl ⟨bitsL s n, Mx, n1, ⟨s, by omega, hPs, rfl, fun t ht => hmin t (by omega)⟩, hO, hn1, hH1⟩

theorem leaveOut_fs (hH : hasH M n0 H) (hS : Sl M 1 v (nodes ns)) (hl : ns.length ≤ 61) {s : Nat} (hs : s < 2 ^ 62) :
    FS C 71 [v, .int .i64 (s : Int)] H (fun e H' => ∃ Mx n', Own 3 1 e (nodes (leave ns s)) Mx ∧ n0 ≤ n' ∧ hasH (Mx ++ M) n' H') := by
  refine FS.intro (pf := pf71) rfl rfl rfl ?_
  repeat' (first | refine zP ?_ | refine zA ?_ | (refine zM ?_; intro _ _) | refine zX ?_ | (refine zC ?_; intro _ _ _ _) | (refine zS ?_; intro _ _) | (apply Ws <;> intro hg))
  refine WC.loopX [(1, _), (8, _), (9, _)] (fun s : NV => [(5, s.v), (10, .int .i64 (s.k : Int))]) []
    (fun z H' => z.k ≤ ns.length ∧ n0 ≤ z.n ∧ Own 3 1 z.v (nodes (leaveTo ns s z.k)) z.Mx ∧ hasH (z.Mx ++ M) z.n H') (fun z => ns.length - z.k) ⟨0, .slice none 0 0, [], [], n0⟩ (by repeat' (first | exact .nil | refine .cons rfl ?_)) rfl
    ⟨Nat.zero_le _, Nat.le_refl _, .nil, hH⟩ ?_
  clear hH
  rintro ⟨k, w, _, Mx, n1⟩ H1 ⟨hk, hn1, hO, hH1⟩
  simp only at hk hn1 hO hH1
  have hS1 := hS.mono (M' := Mx ++ M) fun p hp => List.mem_append_right _ hp
  dsimp only [List.cons_append, List.nil_append]
  repeat' (first | refine zP ?_ | refine zA ?_ | (refine zM ?_; intro _ _) | refine zX ?_ | (refine zC ?_; intro _ _ _ _) | (refine zS ?_; intro _ _) | (apply Ws <;> intro hg))
  refine WC.condP rfl (fun hlt => ?_) (fun hlt => ?_)
  · have hk' : k < ns.length := by omega
    repeat' (first | refine zP ?_ | refine zA ?_ | (refine zM ?_; intro _ _) | refine zX ?_ | (refine zC ?_; intro _ _ _ _) | (refine zS ?_; intro _ _) | (apply Ws <;> intro hg))
    refine WR.call (by first | exact gN | exact gS rfl) rfl rfl (has_fs hs (by omega) _) ?_
    rintro _ H2 ⟨rfl, rfl⟩
    cases hb : s.testBit k with
    | false =>
      repeat' (first | refine zP ?_ | refine zA ?_ | (refine zM ?_; intro _ _) | refine zX ?_ | (refine zC ?_; intro _ _ _ _) | (refine zS ?_; intro _ _) | (apply Ws <;> intro hg))
      refine WR.append1F [] Mx M rfl rfl rfl rfl hO hH1 (new := [.int .i64 ((ns.getD k 0 : Nat) : Int)]) (by rfl) rfl rfl (Nat.le_refl _) (by omega) (by have := leave_len ns s k; simp; omega) fun v3 M3 n3 H3 hO3 hH3 hn3 => ?_
      repeat' (first | refine zP ?_ | refine zA ?_ | (refine zM ?_; intro _ _) | refine zX ?_ | (refine zC ?_; intro _ _ _ _) | (refine zS ?_; intro _ _) | (apply Ws <;> intro hg))
      refine Ends.loop ⟨k + 1, v3, [], M3, n3⟩ (by show ns.length - (k + 1) < ns.length - k; omega) (by repeat' (first | exact .nil | refine .cons rfl ?_)) rfl ⟨hk', by simp only; omega, ?_, hH3⟩
      simp only
      rw [leave_yes hb]
      simpa [nodes] using hO3
    | true =>
      repeat' (first | refine zP ?_ | refine zA ?_ | (refine zM ?_; intro _ _) | refine zX ?_ | (refine zC ?_; intro _ _ _ _) | (refine zS ?_; intro _ _) | (apply Ws <;> intro hg))
      refine Ends.loop ⟨k + 1, w, [], Mx, n1⟩ (by show ns.length - (k + 1) < ns.length - k; omega) (by repeat' (first | exact .nil | refine .cons rfl ?_)) rfl ⟨hk', hn1, ?_, hH1⟩
      simp only
      rw [leave_no hb]; exact hO
  · have hkl : ns.length = k := by omega
    subst hkl
    repeat' (first | refine zP ?_ | refine zA ?_ | (refine zM ?_; intro _ _) | refine zX ?_ | (refine zC ?_; intro _ _ _ _) | (refine zS ?_; intro _ _) | (apply Ws <;> intro hg))
    exact Ends.ret1 rfl ⟨Mx, n1, hO, hn1, hH1⟩
theorem wear_fs (hH : hasH M n0 H) (hS : Sl M 1 v (nodes ns)) (hl : ns.length ≤ 1000) (hb : ∀ x ∈ ns, x < 2 ^ 62) {m : Nat} (hm : m < 2 ^ 62) :
    FS C 75 [v, .int .i64 (m : Int)] H (fun e H' => ∃ Mx n', Own 3 1 e (nodes (wearL ns m)) Mx ∧ n0 ≤ n' ∧ hasH (Mx ++ M) n' H') := by
  refine FS.intro (pf := pf75) rfl rfl rfl ?_
  repeat' (first | refine zP ?_ | refine zA ?_ | (refine zM ?_; intro _ _) | refine zX ?_ | (refine zC ?_; intro _ _ _ _) | (refine zS ?_; intro _ _) | (apply Ws <;> intro hg))
  refine WC.loopX [(1, _), (8, _), (9, _)] (fun s : NV => [(5, s.v), (10, .int .i64 (s.k : Int))]) []
    (fun s H' => s.k ≤ ns.length ∧ n0 ≤ s.n ∧ Own 3 1 s.v (nodes (wearL (ns.take s.k) m)) s.Mx ∧ hasH (s.Mx ++ M) s.n H') (fun s => ns.length - s.k) ⟨0, .slice none 0 0, [], [], n0⟩ (by repeat' (first | exact .nil | refine .cons rfl ?_)) rfl
    ⟨Nat.zero_le _, Nat.le_refl _, .nil, hH⟩ ?_
  clear hH
  rintro ⟨k, w, _, Mx, n1⟩ H1 ⟨hk, hn1, hO, hH1⟩
  simp only at hk hn1 hO hH1
  have hS1 := hS.mono (M' := Mx ++ M) fun p hp => List.mem_append_right _ hp
  dsimp only [List.cons_append, List.nil_append]
  repeat' (first | refine zP ?_ | refine zA ?_ | (refine zM ?_; intro _ _) | refine zX ?_ | (refine zC ?_; intro _ _ _ _) | (refine zS ?_; intro _ _) | (apply Ws <;> intro hg))
  refine WC.condP rfl (fun hlt => ?_) (fun hlt => ?_)
  · have hk' : k < ns.length := by omega
    have hx := hb _ (getD_mem (a := 0) hk')
    repeat' (first | refine zP ?_ | refine zA ?_ | (refine zM ?_; intro _ _) | refine zX ?_ | (refine zC ?_; intro _ _ _ _) | (refine zS ?_; intro _ _) | (apply Ws <;> intro hg))
    refine WR.op (by first | exact gN | exact gS rfl) rfl (OpV.andNotN rfl rfl (by show ns.getD k 0 < 2 ^ 63; omega) (by show m < 2 ^ 63; omega)) ?_
    refine WR.append1F [] Mx M rfl rfl rfl rfl hO hH1 (new := [.int .i64 ((ns.getD k 0 ^^^ (ns.getD k 0 &&& m) : Nat) : Int)]) (by rfl) rfl rfl (Nat.le_refl _) (by omega) (by simp [wearL]; omega) fun v3 M3 n3 H3 hO3 hH3 hn3 => ?_
    repeat' (first | refine zP ?_ | refine zA ?_ | (refine zM ?_; intro _ _) | refine zX ?_ | (refine zC ?_; intro _ _ _ _) | (refine zS ?_; intro _ _) | (apply Ws <;> intro hg))
    refine Ends.loop ⟨k + 1, v3, [], M3, n3⟩ (by show ns.length - (k + 1) < ns.length - k; omega) (by repeat' (first | exact .nil | refine .cons rfl ?_)) rfl ⟨hk', by simp only; omega, ?_, hH3⟩
    simp only
    rw [List.take_succ_eq_append_getElem hk', wearL, List.map_append, ← getD_eq (a := 0) hk']
    simpa [nodes, wearL] using hO3
  · have hkl : ns.length = k := by omega
    subst hkl
    rw [List.take_length] at hO
    repeat' (first | refine zP ?_ | refine zA ?_ | (refine zM ?_; intro _ _) | refine zX ?_ | (refine zC ?_; intro _ _ _ _) | (refine zS ?_; intro _ _) | (apply Ws <;> intro hg))
    exact Ends.ret1 rfl ⟨Mx, n1, hO, hn1, hH1⟩

theorem forgC_fs (hH : hasH M n0 H) (hS : Sl M 1 v (nodes ns)) (hl : ns.length ≤ 8) {N : Nat} (hN : N ≤ 6) (hb : ∀ x ∈ ns, x < 2 ^ N) {s b3 b4 : Nat} (hs : s < 2 ^ ns.length)
    (h3 : (b3, Ch.row 3 0 0 [.int .i64 (N : Int)]) ∈ M) (h4 : (b4, Ch.row 22 0 0 [v]) ∈ M) :
    FS C 70 [.int .i64 (s : Int), .pointer (some ⟨b3, 0, some 0⟩), .pointer (some ⟨b4, 0, some 0⟩)] H (fun e H' => e = .bool (forgP N ns s) ∧ ∃ n', n0 ≤ n' ∧ hasH M n' H') := by
  have hs62 : s < 2 ^ 62 := Nat.lt_of_lt_of_le hs (Nat.pow_le_pow_right (by omega) (by omega))
  refine FS.intro (pf := pf70) rfl rfl rfl ?_
  repeat' (first | refine zP ?_ | refine zA ?_ | (refine zM ?_; intro _ _) | refine zX ?_ | (refine zC ?_; intro _ _ _ _) | (refine zS ?_; intro _ _) | (apply Ws <;> intro hg))
  refine WC.regionD ?_
  repeat' (first | refine zD ?_ | (refine zE ?_; intro _ _ _ _))
  refine WD.call (by first | exact gN | exact gS rfl) rfl rfl (leaveOut_fs hH hS (by omega) hs62) ?_
  rintro w H1 ⟨Mx, n1, hO, hn1, hH1⟩
  have h3' := List.mem_append_right Mx h3
  have h4' := List.mem_append_right Mx h4
  refine ⟨zSt, ?_⟩
  refine WD.call (by first | exact gN | exact gS rfl) rfl rfl (honest_fs hH1 (hO.sl M) (by have := leave_len ns s ns.length; show (leaveTo ns s ns.length).length ≤ 61; omega) (lt_62 hN fun x hx => hb x (leave_mem hx)) (by omega)) ?_
  rintro _ H2 ⟨rfl, n2, hn2, hH2⟩
  refine ⟨zSt, ?_⟩
  repeat' (first | refine zD ?_ | (refine zE ?_; intro _ _ _ _))
  refine WD.nil ?_
  repeat' (first | refine zP ?_ | refine zA ?_ | (refine zM ?_; intro _ _) | refine zX ?_ | (refine zC ?_; intro _ _ _ _) | (refine zS ?_; intro _ _) | (apply Ws <;> intro hg))
  exact Ends.ret1 rfl ⟨rfl, n2, by omega, hH2.sub (List.sublist_append_right Mx M)⟩
theorem wornC_fs (hH : hasH M n0 H) (hS : Sl M 1 v (nodes ns)) (hl : ns.length ≤ 8) {N : Nat} (hN : N ≤ 6) (hb : ∀ x ∈ ns, x < 2 ^ N) {s b3 b4 : Nat} (hs : s < 2 ^ N)
    (h3 : (b3, Ch.row 3 0 0 [.int .i64 (N : Int)]) ∈ M) (h4 : (b4, Ch.row 22 0 0 [v]) ∈ M) :
    FS C 74 [.int .i64 (s : Int), .pointer (some ⟨b3, 0, some 0⟩), .pointer (some ⟨b4, 0, some 0⟩)] H (fun e H' => e = .bool (wornP N ns s) ∧ ∃ n', n0 ≤ n' ∧ hasH M n' H') := by
  have hs62 : s < 2 ^ 62 := Nat.lt_of_lt_of_le hs (Nat.pow_le_pow_right (by omega) (by omega))
  refine FS.intro (pf := pf74) rfl rfl rfl ?_
  repeat' (first | refine zP ?_ | refine zA ?_ | (refine zM ?_; intro _ _) | refine zX ?_ | (refine zC ?_; intro _ _ _ _) | (refine zS ?_; intro _ _) | (apply Ws <;> intro hg))
  refine WC.regionD ?_
  repeat' (first | refine zD ?_ | (refine zE ?_; intro _ _ _ _))
  refine WD.call (by first | exact gN | exact gS rfl) rfl rfl (wear_fs hH hS (by omega) (lt_62 hN hb) hs62) ?_
  rintro w H1 ⟨Mx, n1, hO, hn1, hH1⟩
  have h3' := List.mem_append_right Mx h3
  have h4' := List.mem_append_right Mx h4
  refine ⟨zSt, ?_⟩
  refine WD.call (by first | exact gN | exact gS rfl) rfl rfl (honest_fs hH1 (hO.sl M) (by simp [wearL]; omega) (lt_62 hN (wear_lt hb)) (by omega)) ?_
  rintro _ H2 ⟨rfl, n2, hn2, hH2⟩
  refine ⟨zSt, ?_⟩
  repeat' (first | refine zD ?_ | (refine zE ?_; intro _ _ _ _))
  refine WD.nil ?_
  repeat' (first | refine zP ?_ | refine zA ?_ | (refine zM ?_; intro _ _) | refine zX ?_ | (refine zC ?_; intro _ _ _ _) | (refine zS ?_; intro _ _) | (apply Ws <;> intro hg))
  exact Ends.ret1 rfl ⟨rfl, n2, by omega, hH2.sub (List.sublist_append_right Mx M)⟩
end
end Go.Proofs.Ytblopbimchkneaa.Md

namespace Go.Proofs.Ytblopbimchkneaa.Md
open Go Go.Abs Go.Mth
set_option linter.unusedVariables false
set_option linter.unusedSimpArgs false
attribute [local irreducible] gOK WS WC WR WD Ends FS YS OpV seqK blockK loopK midK retK rdK asgK rangeEnd sat Cell
section
variable {M : HL} {n0 : Nat} {H : Heap} {v w : Value} {ns : List Nat}
theorem same_fs (hH : hasH M n0 H) {xs ys : List Nat} (hS : Sl M 1 v (nodes xs)) (hU : Sl M 1 w (nodes ys)) (hx : xs.length ≤ 1000) (hy : ys.length ≤ 1000) :
    FS C 29 [v, w] H (fun e H' => e = .bool (decide (xs = ys)) ∧ H' = H) := by
  refine FS.intro (pf := pf29) rfl rfl rfl ?_
  repeat' (first | refine zP ?_ | refine zA ?_ | (refine zM ?_; intro _ _) | refine zX ?_ | (refine zC ?_; intro _ _ _ _) | (refine zS ?_; intro _ _) | (apply Ws <;> intro hg))
  refine WC.condP rfl (fun hne => ?_) (fun hne => ?_)
  · repeat' (first | refine zP ?_ | refine zA ?_ | (refine zM ?_; intro _ _) | refine zX ?_ | (refine zC ?_; intro _ _ _ _) | (refine zS ?_; intro _ _) | (apply Ws <;> intro hg))
    exact Ends.ret1 rfl ⟨by rw [decide_eq_false (fun h => hne (by rw [h]))], rfl⟩
  have hle : xs.length = ys.length := by omega
  repeat' (first | refine zP ?_ | refine zA ?_ | (refine zM ?_; intro _ _) | refine zX ?_ | (refine zC ?_; intro _ _ _ _) | (refine zS ?_; intro _ _) | (apply Ws <;> intro hg))
  refine WC.loopX [(0, _), (1, _)] (fun k : Nat => [(5, .int .i64 (k : Int))]) [] (fun k H' => H' = H ∧ k ≤ xs.length ∧ ∀ j, j < k → xs.getD j 0 = ys.getD j 0) (fun k => xs.length - k) 0 (by repeat' (first | exact .nil | refine .cons rfl ?_)) rfl ⟨rfl, Nat.zero_le _, fun j h => absurd h (Nat.not_lt_zero _)⟩ ?_
  rintro k H' ⟨rfl, hk, hno⟩
  dsimp only [List.cons_append, List.nil_append]
  repeat' (first | refine zP ?_ | refine zA ?_ | (refine zM ?_; intro _ _) | refine zX ?_ | (refine zC ?_; intro _ _ _ _) | (refine zS ?_; intro _ _) | (apply Ws <;> intro hg))
  refine WC.condP rfl (fun hlt => ?_) (fun hlt => ?_)
  · have hk' : k < xs.length := by omega
    have hk2 : k < ys.length := by omega
    repeat' (first | refine zP ?_ | refine zA ?_ | (refine zM ?_; intro _ _) | refine zX ?_ | (refine zC ?_; intro _ _ _ _) | (refine zS ?_; intro _ _) | (apply Ws <;> intro hg))
    refine WC.condP rfl (fun hd => ?_) (fun hd => ?_)
    · repeat' (first | refine zP ?_ | refine zA ?_ | (refine zM ?_; intro _ _) | refine zX ?_ | (refine zC ?_; intro _ _ _ _) | (refine zS ?_; intro _ _) | (apply Ws <;> intro hg))
      exact Ends.ret1 rfl ⟨by rw [decide_eq_false (fun h => hd (by rw [h]))], rfl⟩
    · repeat' (first | refine zP ?_ | refine zA ?_ | (refine zM ?_; intro _ _) | refine zX ?_ | (refine zC ?_; intro _ _ _ _) | (refine zS ?_; intro _ _) | (apply Ws <;> intro hg))
      refine Ends.loop (k + 1) (by omega) (by repeat' (first | exact .nil | refine .cons rfl ?_)) rfl ⟨rfl, hk', fun j hj => ?_⟩
      rcases Nat.lt_or_ge j k with h | h
      · exact hno j h
      · have : j = k := by omega
        subst this; omega
  · repeat' (first | refine zP ?_ | refine zA ?_ | (refine zM ?_; intro _ _) | refine zX ?_ | (refine zC ?_; intro _ _ _ _) | (refine zS ?_; intro _ _) | (apply Ws <;> intro hg))
    exact Ends.ret1 rfl ⟨by rw [decide_eq_true (ext_getD (a := 0) hle fun i hi => hno i (by omega))], rfl⟩

theorem Forged_fs (hH : hasH M n0 H) (hS : Sl M 1 v (nodes ns)) (hl : ns.length ≤ 8) {N : Nat} (hN1 : 1 ≤ N) (hN : N ≤ 6) (hb : ∀ x ∈ ns, x < 2 ^ N) :
    FS C 30 [.int .i64 (N : Int), v] H (fun e H' => ∃ r u Mx n', e = .tuple #[u, .int .i64 0] ∧ LeastR ns.length (forgP N ns) r ∧ Own 3 1 u (nodes r) Mx ∧ n0 ≤ n' ∧ hasH (Mx ++ M) n' H') := by
  obtain ⟨av, cv, hv⟩ := hS.len
  rw [List.length_map] at hv
  subst hv
  refine FS.intro (pf := pf30) rfl rfl rfl ?_
  repeat' (first | refine zP ?_ | refine zA ?_ | (refine zM ?_; intro _ _) | refine zX ?_ | (refine zC ?_; intro _ _ _ _) | (refine zS ?_; intro _ _) | (apply Ws <;> intro hg))
  rename_i Ha hHa Hb hHb
  have h3 : (n0, Ch.row 3 0 0 [.int .i64 (N : Int)]) ∈ (n0 + 1, Ch.row 22 0 0 [.slice av ns.length cv]) :: (n0, Ch.row 3 0 0 [.int .i64 (N : Int)]) :: M := .tail _ (.head _)
  have h4 : (n0 + 1, Ch.row 22 0 0 [.slice av ns.length cv]) ∈ (n0 + 1, Ch.row 22 0 0 [.slice av ns.length cv]) :: (n0, Ch.row 3 0 0 [.int .i64 (N : Int)]) :: M := .head _
  replace hS := (hS.cons (p := (n0, Ch.row 3 0 0 [.int .i64 (N : Int)]))).cons (p := (n0 + 1, Ch.row 22 0 0 [.slice av ns.length cv]))
  have hback : ∀ {Mx : HL} {n' : Nat} {H' : Heap}, hasH (Mx ++ ((n0 + 1, Ch.row 22 0 0 [.slice av ns.length cv]) :: (n0, Ch.row 3 0 0 [.int .i64 (N : Int)]) :: M)) n' H' → hasH (Mx ++ M) n' H' := fun h => h.sub (List.Sublist.append_left ((List.sublist_cons_self _ _).trans (List.sublist_cons_self _ _)) _)
  generalize (n0 + 1, Ch.row 22 0 0 [.slice av ns.length cv]) :: (n0, Ch.row 3 0 0 [.int .i64 (N : Int)]) :: M = U at hHb hS h3 h4 hback
  clear hHa hH
  have hSI : Unit → Sl U 1 (.slice av ns.length cv) (ints (IL ns)) := fun _ => by rw [← nodesI]; exact hS
  repeat' (first | refine zP ?_ | refine zA ?_ | (refine zM ?_; intro _ _) | refine zX ?_ | (refine zC ?_; intro _ _ _ _) | (refine zS ?_; intro _ _) | (apply Ws <;> intro hg))
  refine WR.call (by first | exact gN | exact gS rfl) rfl rfl (Check_fs hHb (hSI ()) (by simp; omega) _) ?_
  rintro _ H1 ⟨rfl, rfl⟩
  rw [casts_intro hN1 hN hl hb]
  repeat' (first | refine zP ?_ | refine zA ?_ | (refine zM ?_; intro _ _) | refine zX ?_ | (refine zC ?_; intro _ _ _ _) | (refine zS ?_; intro _ _) | (apply Ws <;> intro hg))
  refine WR.call (by first | exact gN | exact gS rfl) rfl rfl (fewest_fs (g := 70) (vb := [.pointer (some ⟨n0, 0, some 0⟩), .pointer (some ⟨n0 + 1, 0, some 0⟩)]) hHb hl (forg_all N ns) fun s M' n1 H1 hs hM hH1 => forgC_fs hH1 (hS.mono hM) hl hN hb hs (hM _ h3) (hM _ h4)) ?_
  rintro u H2 ⟨r, Mx, n2, hr, hO, hn2, hH2⟩
  repeat' (first | refine zP ?_ | refine zA ?_ | (refine zM ?_; intro _ _) | refine zX ?_ | (refine zC ?_; intro _ _ _ _) | (refine zS ?_; intro _ _) | (apply Ws <;> intro hg))
  exact Ends.ret2 rfl rfl ⟨r, u, Mx, n2, rfl, hr, hO, by omega, hback hH2⟩
theorem Worn_fs (hH : hasH M n0 H) (hS : Sl M 1 v (nodes ns)) (hl : ns.length ≤ 8) {N : Nat} (hN1 : 1 ≤ N) (hN : N ≤ 6) (hb : ∀ x ∈ ns, x < 2 ^ N) :
    FS C 32 [.int .i64 (N : Int), v] H (fun e H' => ∃ r u Mx n', e = .tuple #[u, .int .i64 0] ∧ LeastR N (wornP N ns) r ∧ Own 3 1 u (nodes r) Mx ∧ n0 ≤ n' ∧ hasH (Mx ++ M) n' H') := by
  obtain ⟨av, cv, hv⟩ := hS.len
  rw [List.length_map] at hv
  subst hv
  refine FS.intro (pf := pf32) rfl rfl rfl ?_
  repeat' (first | refine zP ?_ | refine zA ?_ | (refine zM ?_; intro _ _) | refine zX ?_ | (refine zC ?_; intro _ _ _ _) | (refine zS ?_; intro _ _) | (apply Ws <;> intro hg))
  rename_i Ha hHa Hb hHb
  have h3 : (n0, Ch.row 3 0 0 [.int .i64 (N : Int)]) ∈ (n0 + 1, Ch.row 22 0 0 [.slice av ns.length cv]) :: (n0, Ch.row 3 0 0 [.int .i64 (N : Int)]) :: M := .tail _ (.head _)
  have h4 : (n0 + 1, Ch.row 22 0 0 [.slice av ns.length cv]) ∈ (n0 + 1, Ch.row 22 0 0 [.slice av ns.length cv]) :: (n0, Ch.row 3 0 0 [.int .i64 (N : Int)]) :: M := .head _
  replace hS := (hS.cons (p := (n0, Ch.row 3 0 0 [.int .i64 (N : Int)]))).cons (p := (n0 + 1, Ch.row 22 0 0 [.slice av ns.length cv]))
  have hback : ∀ {Mx : HL} {n' : Nat} {H' : Heap}, hasH (Mx ++ ((n0 + 1, Ch.row 22 0 0 [.slice av ns.length cv]) :: (n0, Ch.row 3 0 0 [.int .i64 (N : Int)]) :: M)) n' H' → hasH (Mx ++ M) n' H' := fun h => h.sub (List.Sublist.append_left ((List.sublist_cons_self _ _).trans (List.sublist_cons_self _ _)) _)
  generalize (n0 + 1, Ch.row 22 0 0 [.slice av ns.length cv]) :: (n0, Ch.row 3 0 0 [.int .i64 (N : Int)]) :: M = U at hHb hS h3 h4 hback
  clear hHa hH
  have hSI : Unit → Sl U 1 (.slice av ns.length cv) (ints (IL ns)) := fun _ => by rw [← nodesI]; exact hS
  repeat' (first | refine zP ?_ | refine zA ?_ | (refine zM ?_; intro _ _) | refine zX ?_ | (refine zC ?_; intro _ _ _ _) | (refine zS ?_; intro _ _) | (apply Ws <;> intro hg))
  refine WR.call (by first | exact gN | exact gS rfl) rfl rfl (Check_fs hHb (hSI ()) (by simp; omega) _) ?_
  rintro _ H1 ⟨rfl, rfl⟩
  rw [casts_intro hN1 hN hl hb]
  repeat' (first | refine zP ?_ | refine zA ?_ | (refine zM ?_; intro _ _) | refine zX ?_ | (refine zC ?_; intro _ _ _ _) | (refine zS ?_; intro _ _) | (apply Ws <;> intro hg))
  refine WR.call (by first | exact gN | exact gS rfl) rfl rfl (fewest_fs (g := 74) (vb := [.pointer (some ⟨n0, 0, some 0⟩), .pointer (some ⟨n0 + 1, 0, some 0⟩)]) hHb (n := N) (by omega) (worn_all hb) fun s M' n1 H1 hs hM hH1 => wornC_fs hH1 (hS.mono hM) hl hN hb hs (hM _ h3) (hM _ h4)) ?_
  rintro u H2 ⟨r, Mx, n2, hr, hO, hn2, hH2⟩
  repeat' (first | refine zP ?_ | refine zA ?_ | (refine zM ?_; intro _ _) | refine zX ?_ | (refine zC ?_; intro _ _ _ _) | (refine zS ?_; intro _ _) | (apply Ws <;> intro hg))
  exact Ends.ret2 rfl rfl ⟨r, u, Mx, n2, rfl, hr, hO, by omega, hback hH2⟩
end
end Go.Proofs.Ytblopbimchkneaa.Md

namespace Go.Proofs.Ytblopbimchkneaa.Md
open Go Go.Abs Go.Mth
set_option linter.unusedVariables false
set_option linter.unusedSimpArgs false
/-! Lists of so many numbers, in ascending order. -/
def fromB (b : List Nat) : Nat := match b.getLast? with | some x => x + 1 | none => 0
def listsL (n : Nat) : Nat → List Nat → List (List Nat)
  | 0, b => [b]
  | m + 1, b => ((List.range n).filter fun x => decide (fromB b ≤ x)).flatMap fun x => listsL n m (b ++ [x])
/-- Those that begin with a number below k. -/
def listsTo (n m : Nat) (b : List Nat) (k : Nat) : List (List Nat) := ((List.range k).filter fun x => decide (fromB b ≤ x)).flatMap fun x => listsL n m (b ++ [x])
theorem fromB_snoc (b : List Nat) (x : Nat) : fromB (b ++ [x]) = x + 1 := by simp [fromB]
theorem listsTo_succ {n m k : Nat} {b : List Nat} (h : fromB b ≤ k) : listsTo n m b (k + 1) = listsTo n m b k ++ listsL n m (b ++ [k]) := by
  rw [listsTo, List.range_succ, List.filter_append, List.filter_cons_of_pos (by simpa using h), List.filter_nil, List.flatMap_append]
  simp [listsTo]
theorem listsTo_from (n m : Nat) (b : List Nat) : listsTo n m b (fromB b) = [] := by
  rw [listsTo, List.filter_eq_nil_iff.2 (fun x hx => by have := List.mem_range.1 hx; simp; omega)]; rfl
theorem mem_lists {n : Nat} : ∀ {m : Nat} {b l : List Nat}, l ∈ listsL n m b ↔ ∃ t, l = b ++ t ∧ t.length = m ∧ t.Pairwise (· < ·) ∧ ∀ x ∈ t, fromB b ≤ x ∧ x < n
  | 0, b, l => by
    rw [listsL, List.mem_singleton]
    constructor
    · rintro rfl; exact ⟨[], by simp, rfl, .nil, fun x hx => by cases hx⟩
    · rintro ⟨t, rfl, h, _⟩; rw [List.length_eq_zero_iff.1 h, List.append_nil]
  | m + 1, b, l => by
    rw [listsL, List.mem_flatMap]
    simp only [List.mem_filter, List.mem_range, decide_eq_true_eq, mem_lists (m := m), fromB_snoc]
    constructor
    · rintro ⟨x, ⟨hx, hf⟩, t, rfl, h1, h2, h3⟩
      refine ⟨x :: t, by simp, by simp [h1], ?_, fun y hy => ?_⟩
      · exact List.pairwise_cons.2 ⟨fun y hy => by have := h3 y hy; omega, h2⟩
      · rcases List.mem_cons.1 hy with rfl | hy
        · exact ⟨hf, hx⟩
        · have := h3 y hy; exact ⟨by omega, this.2⟩
    · rintro ⟨t, rfl, h1, h2, h3⟩
      match t, h1 with
      | x :: t, h1 =>
        obtain ⟨g1, g2⟩ := List.pairwise_cons.1 h2
        obtain ⟨k1, k2⟩ := h3 x (by simp)
        exact ⟨x, ⟨k2, k1⟩, t, by simp, by simpa using h1, g2, fun y hy => ⟨by have := g1 y hy; omega, (h3 y (by simp [hy])).2⟩⟩
theorem lex_prefix : ∀ (b x y : List Int), lexC (b ++ x) (b ++ y) = lexC x y
  | [], x, y => rfl
  | a :: b, x, y => by
    rw [List.cons_append, List.cons_append, lexC, if_neg (by rw [cmp_zero.2 rfl]; simp), lex_prefix b x y]
theorem lists_order {n : Nat} : ∀ {m : Nat} {b : List Nat}, (listsL n m b).Pairwise fun l k => lexC (IL l) (IL k) < 0
  | 0, b => by rw [listsL]; exact List.pairwise_singleton _ _
  | m + 1, b => by
    rw [listsL, List.pairwise_flatMap]
    refine ⟨fun x _ => lists_order, ?_⟩
    refine (List.pairwise_lt_range.filter _).imp ?_
    intro x y hxy l hl k hk
    obtain ⟨t, rfl, _⟩ := mem_lists.1 hl
    obtain ⟨u, rfl, _⟩ := mem_lists.1 hk
    rw [List.append_assoc, List.append_assoc]
    show lexC ((b ++ ([x] ++ t)).map fun (x : Nat) => (x : Int)) ((b ++ ([y] ++ u)).map fun (x : Nat) => (x : Int)) < 0
    simp only [List.map_append, lex_prefix]
    simp only [List.cons_append, List.nil_append, List.map_cons]
    have h1 := cmp_lt (a := (x : Int)) (b := (y : Int))
    have h2 : cmpI (x : Int) (y : Int) < 0 := h1.2 (by omega)
    rw [lexC, if_pos (by omega)]; exact h2
/-- Lists in ascending order with the same members are the same. -/
theorem asc_eq : ∀ {l k : List Nat}, l.Pairwise (· < ·) → k.Pairwise (· < ·) → (∀ x, x ∈ l ↔ x ∈ k) → l = k
  | [], [], _, _, _ => rfl
  | [], a :: k, _, _, h => by have := (h a).2 (by simp); cases this
  | a :: l, [], _, _, h => by have := (h a).1 (by simp); cases this
  | a :: l, b :: k, hl, hk, h => by
    obtain ⟨l1, l2⟩ := List.pairwise_cons.1 hl
    obtain ⟨k1, k2⟩ := List.pairwise_cons.1 hk
    have hab : a = b := by
      have h1 := (h a).1 (by simp)
      have h2 := (h b).2 (by simp)
      rcases List.mem_cons.1 h1 with h1 | h1
      · exact h1
      · rcases List.mem_cons.1 h2 with h2 | h2
        · exact h2.symm
        · have := k1 a h1; have := l1 b h2; omega
    subst hab
    congr 1
    refine asc_eq l2 k2 fun x => ?_
    constructor
    · intro hx
      have h1 := l1 x hx
      rcases List.mem_cons.1 ((h x).1 (by simp [hx])) with h2 | h2
      · omega
      · exact h2
    · intro hx
      have h1 := k1 x hx
      rcases List.mem_cons.1 ((h x).2 (by simp [hx])) with h2 | h2
      · omega
      · exact h2
theorem bits_asc (s n : Nat) : (bitsL s n).Pairwise (· < ·) := List.pairwise_lt_range.filter _
theorem bits_mask {l : List Nat} {n : Nat} (h : l.Pairwise (· < ·)) (hb : ∀ x ∈ l, x < n) : bitsL (maskN l) n = l :=
  asc_eq (bits_asc _ _) h fun x => by rw [mem_bits, mask_bit]; exact ⟨fun h => h.2, fun h => ⟨hb x h, h⟩⟩
theorem lists_bits {n m : Nat} {l : List Nat} : l ∈ listsL n m [] ↔ ∃ s, s < 2 ^ n ∧ l = bitsL s n ∧ l.length = m := by
  rw [mem_lists]
  constructor
  · rintro ⟨t, ht, h1, h2, h3⟩
    rw [List.nil_append] at ht
    subst ht
    exact ⟨maskN l, mask_lt fun x hx => (h3 x hx).2, (bits_mask h2 fun x hx => (h3 x hx).2).symm, h1⟩
  · rintro ⟨s, h1, rfl, h3⟩
    exact ⟨bitsL s n, rfl, h3, bits_asc _ _, fun x hx => ⟨Nat.zero_le _, (mem_bits.1 hx).1⟩⟩
structure LV where
  k : Nat
  v : Value
  vs : List Value
  Mo : HL
  Mi : HL
  n : Nat
/-- Rows of numbers, and where they lie. -/
def RowsN (M : HL) (vs : List Value) (ls : List (List Nat)) : Prop := vs.length = ls.length ∧ ∀ i, i < ls.length → Sl M 1 (vs.getD i undef) (nodes (ls.getD i []))
theorem RowsN.mono {M M' : HL} {vs : List Value} {ls : List (List Nat)} (h : RowsN M vs ls) (k : ∀ p ∈ M, p ∈ M') : RowsN M' vs ls := ⟨h.1, fun i hi => (h.2 i hi).mono k⟩
theorem getD_right' {α : Type} {l m : List α} {k : Nat} {a : α} (h : l.length ≤ k) : (l ++ m).getD k a = m.getD (k - l.length) a := by
  rw [List.getD_eq_getElem?_getD, List.getD_eq_getElem?_getD, List.getElem?_append_right h]
theorem RowsN.app {M : HL} {vs ws : List Value} {ls ks : List (List Nat)} (h : RowsN M vs ls) (g : RowsN M ws ks) : RowsN M (vs ++ ws) (ls ++ ks) := by
  refine ⟨by rw [List.length_append, List.length_append, h.1, g.1], fun i hi => ?_⟩
  rw [List.length_append] at hi
  rcases Nat.lt_or_ge i ls.length with h1 | h1
  · rw [getD_app_l (by rw [h.1]; exact h1), getD_app_l h1]; exact h.2 i h1
  · rw [getD_right' (by rw [h.1]; exact h1), getD_right' h1, h.1]; exact g.2 _ (by omega)
theorem RowsN.one {M : HL} {vs : List Value} {ls : List (List Nat)} (h : RowsN M vs ls) : vs.all one = true := by
  rw [List.all_eq_true]
  intro q hq
  obtain ⟨i, hi, rfl⟩ := List.mem_iff_getElem.1 hq
  have := h.2 i (by rw [← h.1]; exact hi)
  rw [getD_eq hi] at this
  exact this.one_
end Go.Proofs.Ytblopbimchkneaa.Md

namespace Go.Proofs.Ytblopbimchkneaa.Md
open Go Go.Abs Go.Mth
set_option linter.unusedVariables false
set_option linter.unusedSimpArgs false
theorem mask_inj {l k : List Nat} {n : Nat} (h : l.Pairwise (· < ·)) (hb : ∀ x ∈ l, x < n) (g : k.Pairwise (· < ·)) (gb : ∀ x ∈ k, x < n) (e : maskN l = maskN k) : l = k := by
  rw [← bits_mask h hb, ← bits_mask g gb, e]
theorem lists_asc {n m : Nat} {b l : List Nat} (hb : b.Pairwise (· < ·)) (hn : ∀ x ∈ b, x < n) (h : l ∈ listsL n m b) : l.Pairwise (· < ·) ∧ ∀ x ∈ l, x < n := by
  obtain ⟨t, rfl, _, h2, h3⟩ := mem_lists.1 h
  refine ⟨List.pairwise_append.2 ⟨hb, h2, fun x hx y hy => ?_⟩, fun x hx => ?_⟩
  · have := (h3 y hy).1
    have hf : x < fromB b := by
      rcases List.eq_nil_or_concat b with rfl | ⟨b', z, rfl⟩
      · cases hx
      · rw [List.concat_eq_append] at hx hb ⊢
        rw [fromB_snoc]
        rcases List.mem_append.1 hx with h | h
        · have := (List.pairwise_append.1 hb).2.2 x h z (by simp); omega
        · rw [List.mem_singleton.1 h]; omega
    omega
  · rcases List.mem_append.1 hx with h | h
    · exact hn x h
    · exact (h3 x h).2
theorem lists_len {n m : Nat} {b : List Nat} (hb : b.Pairwise (· < ·)) (hn : ∀ x ∈ b, x < n) : (listsL n m b).length ≤ 2 ^ n := by
  have h1 : ((listsL n m b).map maskN).Nodup := by
    refine List.pairwise_map.2 (lists_order.imp_of_mem ?_)
    intro l k hl hk hlt he
    obtain ⟨l1, l2⟩ := lists_asc hb hn hl
    obtain ⟨k1, k2⟩ := lists_asc hb hn hk
    have := mask_inj l1 l2 k1 k2 he
    subst this
    rw [(lex_zero _ _).2 rfl] at hlt; omega
  have := nodup_le (2 ^ n) _ h1 fun y hy => by
    obtain ⟨l, hl, rfl⟩ := List.mem_map.1 hy
    exact mask_lt (lists_asc hb hn hl).2
  rwa [List.length_map] at this
theorem listsTo_mono {n m : Nat} {b : List Nat} {k : Nat} : ∀ d, (listsTo n m b k).length ≤ (listsTo n m b (k + d)).length
  | 0 => Nat.le_refl _
  | d + 1 => by
    have ih := listsTo_mono (n := n) (m := m) (b := b) (k := k) d
    by_cases h : fromB b ≤ k + d
    · rw [← Nat.add_assoc, listsTo_succ h, List.length_append]; omega
    · have : listsTo n m b (k + (d + 1)) = listsTo n m b (k + d) := by
        rw [listsTo, ← Nat.add_assoc, List.range_succ, List.filter_append, List.filter_cons_of_neg (by simpa using h), List.filter_nil, List.append_nil]; rfl
      rw [this]; exact ih
section
variable {nt : Nat} {L : Env} {D : List Nat} {H : Heap} {K : St → Prop} {M M' : HL} {n : Nat} {lo : List Nat} {l : List POp}
/-- A slice's elements in a row of one's own. -/
theorem WR.copyRow {i1 i2 i3 d1 d2 d3 e : Nat} {y : Operand} {v : Value} {cs : List Value} (h1 : Nat.blt d1 nt = true) (h2 : Nat.blt d2 nt = true) (h3 : Nat.blt d3 nt = true) (hy : ev ((d1, .slice (some ⟨n, 0, some 0⟩) 0 (2 * 0 + 1)) :: L) y = some v)
    (hs : ev ((d2, v) :: (d1, .slice (some ⟨n, 0, some 0⟩) 0 (2 * 0 + 1)) :: L) (.tmp d1) = some (.slice (some ⟨n, 0, some 0⟩) 0 (2 * 0 + 1))) (hx : ev ((d2, v) :: (d1, .slice (some ⟨n, 0, some 0⟩) 0 (2 * 0 + 1)) :: L) (.tmp d2) = some v)
    (hH : hasH M n H) (hS : Sl M 1 v cs) (h0 : cs = [] → v = .slice none 0 0) (hone : cs.all one = true) (hl : cs.length ≤ 1000)
    (kk : ∀ v' Mb n' H', Own e 1 v' cs Mb → hasH (Mb ++ M) n' H' → n ≤ n' → WR C nt l ((d3, v') :: (d2, v) :: (d1, .slice (some ⟨n, 0, some 0⟩) 0 (2 * 0 + 1)) :: L) D H' K) :
    WR C nt (⟨i1, some d1, .bldS e 1 [] 0 [], none, []⟩ :: ⟨i2, some d2, .move y, none, []⟩ :: ⟨i3, some d3, .append e 1 (.tmp d1) (.tmp d2), none, lo⟩ :: l) L D H K := by
  refine WR.bldS True.intro h1 hH (vs := []) rfl (cs := []) rfl rfl fun H1 hH1 => ?_
  refine WR.op True.intro h2 (OpV.move hy) ?_
  by_cases hc : cs = []
  · have hv := h0 hc
    subst hv
    refine WR.appNil True.intro h3 hs hx hH1 (.head _) fun H2 hH2 => ?_
    refine kk _ [(n, .inp e 0 0 [])] (n + 1) H2 ?_ (hH2.asInp .here) (by omega)
    rw [hc]
    exact Own.full (len := 0) rfl rfl
  · obtain ⟨hk, hsr⟩ := (hS.cons (p := (n, .row e 0 0 []))).src hH1 hc
    refine WR.appendNew True.intro h3 hs hx hH1 (.head _) (.row _ _ _ _) (Nat.zero_le _) (Nat.zero_le _) hk (by have := hsr _ (Nat.le_refl _); rw [List.take_length] at this; exact this) (by simp) (by cases cs with | nil => exact absurd rfl hc | cons => simp) hone (by omega) (by omega) (by omega) fun H' hH' => ?_
    exact kk _ [(n + 1, .row e 0 0 cs)] (n + 2) H' (Own.row (by simp)) (hH'.sub (.cons_cons _ (List.sublist_cons_self _ _))) (by omega)
end
section
variable {nt : Nat} {L : Env} {D : List Nat} {H : Heap} {K : St → Prop} {M M' : HL} {n : Nat} {lo : List Nat} {l : List POp}
theorem WR.appendOR {i d : Nat} {e sz : Nat} {s x : Operand} {gd : Option (Tmp × Bool)} {v y : Value} {cs : List Value} {Mx M0 : HL} {k : Nat} {new : List Value} (hg : gOK L gd) (hd : Nat.blt d nt = true) (hs : ev L s = some v) (hy : ev L x = some y)
    (hO : Own e sz v cs Mx) (hH : hasH M n H) (hM : M'.Sublist M) (hp : M'.Perm (Mx ++ M0)) (hk : srcLen y = some k) (hx : srcCells H sz k y = some new) (hl : new.length = k * sz) (h1 : 1 ≤ k) (hone : new.all one = true) (hs1 : 1 ≤ sz) (hs2 : sz ≤ 1000)
    (hsm : cs.length + new.length ≤ 100000) (kk : ∀ v' Mx' n' H', OwnR e sz v' (cs ++ new) Mx' → hasH (Mx' ++ M0) n' H' → n ≤ n' → WR C nt l ((d, v') :: L) D H' K) :
    WR C nt (⟨i, some d, .append e sz s x, gd, lo⟩ :: l) L D H K := by
  obtain ⟨v', Mx', n', H', q1, q2, q3, q4⟩ := append_ownR (P := C.c.P) hO ((hH.sub hM).perm hp) hk hx hl h1 hone hs1 hs2 hsm
  refine WR.op hg hd (H' := H') (v := v') (fun t ht => ?_) (kk v' Mx' n' H' q2 q3 q4)
  simp only [opA, ev_ok ht hs, ev_ok ht hy, q1]
end
theorem nodes_one (l : List Nat) : (nodes l).all one = true := by
  rw [List.all_eq_true]; intro q hq; obtain ⟨z, _, rfl⟩ := List.mem_map.1 hq; rfl
theorem fromB_last {b : List Nat} (h : 1 ≤ b.length) : fromB b = b.getD (b.length - 1) 0 + 1 := by
  unfold fromB
  rw [List.getLast?_eq_getElem?, List.getElem?_eq_getElem (by omega), getD_eq (by omega)]
attribute [local irreducible] gOK WS WC WR WD Ends FS YS OpV seqK blockK loopK midK retK rdK asgK rangeEnd sat Cell

set_option maxHeartbeats 2000000 in
theorem lists_fs {n : Nat} (hn : n ≤ 8) : ∀ (m : Nat) {b : List Nat} {v : Value} {M F : HL} {n0 : Nat} {H : Heap}, hasH (F ++ M) n0 H → Sl M 1 v (nodes b) → (b = [] → v = .slice none 0 0) → b.Pairwise (· < ·) → (∀ x ∈ b, x < n) → b.length + m ≤ 16 →
    FS C 72 [.int .i64 (n : Int), .int .i64 (m : Int), v] H (fun e H' => ∃ vs Mo Mi n', Own 22 1 e vs Mo ∧ (vs = [] → e = .slice none 0 0) ∧ RowsN (Mi ++ M) vs (listsL n m b) ∧ n0 ≤ n' ∧ hasH (Mo ++ (Mi ++ (F ++ M))) n' H')
  | 0, b, v, M, F, n0, H, hH, hS, h0, hasc, hbn, hbl => by
    obtain ⟨av, cv, hv⟩ := hS.len
    rw [List.length_map] at hv
    subst hv
    refine FS.intro (pf := pf72) rfl rfl rfl ?_
    repeat' (first | refine zP ?_ | refine zA ?_ | (refine zM ?_; intro _ _) | refine zX ?_ | (refine zC ?_; intro _ _ _ _) | (refine zS ?_; intro _ _) | refine zO ?_ | (apply Ws <;> intro hg))
    refine WR.bldS (by first | exact gN | exact gS rfl) rfl hH (vs := [(0, .slice av b.length cv)]) rfl (cs := [.slice av b.length cv]) (by rfl) rfl fun H1 hH1 => ?_
    repeat' (first | refine zP ?_ | refine zA ?_ | (refine zM ?_; intro _ _) | refine zX ?_ | (refine zC ?_; intro _ _ _ _) | (refine zS ?_; intro _ _) | (apply Ws <;> intro hg))
    refine Ends.ret1 rfl ⟨[.slice av b.length cv], [(n0, .inp 22 0 0 [.slice av b.length cv])], [], n0 + 1, Own.full (len := 1) rfl rfl, fun h => (by cases h), ⟨rfl, fun i hi => ?_⟩, by omega, hH1.asInp .here⟩
    have : i = 0 := by simp [listsL] at hi; exact hi
    subst this
    exact hS
  | m + 1, b, v, M, F, n0, H, hH, hS, h0, hasc, hbn, hbl => by
    have hSF := hS.mono (M' := F ++ M) fun p hp => List.mem_append_right _ hp
    refine FS.intro (pf := pf72) rfl rfl rfl ?_
    repeat' (first | refine zP ?_ | refine zA ?_ | (refine zM ?_; intro _ _) | refine zX ?_ | (refine zC ?_; intro _ _ _ _) | (refine zS ?_; intro _ _) | refine zO ?_ | (apply Ws <;> intro hg))
    refine WC.joinX [(0, _), (1, _), (2, _)] (by repeat' (first | exact .nil | refine .cons rfl ?_)) (fun _ : Unit => [(7, .int .i64 (fromB b : Nat))]) (fun _ H' => H' = H) ?_ ?_
    · refine WC.condP rfl (fun hpos => ?_) (fun hpos => ?_)
      · have hb1 : 1 ≤ b.length := by omega
        have hlast := hbn _ (getD_mem (a := 0) (show b.length - 1 < b.length by omega))
        repeat' (first | refine zP ?_ | refine zA ?_ | (refine zM ?_; intro _ _) | refine zX ?_ | (refine zC ?_; intro _ _ _ _) | (refine zS ?_; intro _ _) | (apply Ws <;> intro hg))
        rw [show ((b.getD (b.length - 1) 0 : Nat) : Int) + 1 = ((fromB b : Nat) : Int) by rw [fromB_last hb1]; omega]
        repeat' (first | refine zP ?_ | refine zA ?_ | (refine zM ?_; intro _ _) | refine zX ?_ | (refine zC ?_; intro _ _ _ _) | (refine zS ?_; intro _ _) | (apply Ws <;> intro hg))
        exact Ends.midX () (by repeat' (first | exact .nil | refine .cons rfl ?_)) rfl
      · have hb0 : b = [] := List.length_eq_zero_iff.1 (by omega)
        subst hb0
        repeat' (first | refine zP ?_ | refine zA ?_ | (refine zM ?_; intro _ _) | refine zX ?_ | (refine zC ?_; intro _ _ _ _) | (refine zS ?_; intro _ _) | (apply Ws <;> intro hg))
        exact Ends.midX () (by repeat' (first | exact .nil | refine .cons rfl ?_)) rfl
    rintro _ _ rfl
    dsimp only [List.cons_append, List.nil_append]
    have hfb : fromB b ≤ n := by
      rcases List.eq_nil_or_concat b with rfl | ⟨b', z, rfl⟩
      · exact Nat.zero_le _
      · rw [List.concat_eq_append, fromB_snoc]
        have := hbn z (by simp)
        omega
    repeat' (first | refine zP ?_ | refine zA ?_ | (refine zM ?_; intro _ _) | refine zX ?_ | (refine zC ?_; intro _ _ _ _) | (refine zS ?_; intro _ _) | (apply Ws <;> intro hg))
    refine WC.loopX [(0, _), (1, _), (2, _)] (fun s : LV => [(8, s.v), (9, .int .i64 (s.k : Int))]) []
      (fun z H' => fromB b ≤ z.k ∧ z.k ≤ n ∧ n0 ≤ z.n ∧ RowsN (z.Mi ++ M) z.vs (listsTo n m b z.k) ∧ ((z.v = .slice none 0 0 ∧ z.vs = [] ∧ z.Mo = []) ∨ OwnR 22 1 z.v z.vs z.Mo) ∧ (z.vs = [] → z.v = .slice none 0 0) ∧ hasH (z.Mo ++ (z.Mi ++ (F ++ M))) z.n H') (fun z => n - z.k) ⟨fromB b, .slice none 0 0, [], [], [], n0⟩ (by repeat' (first | exact .nil | refine .cons rfl ?_)) rfl
      ⟨Nat.le_refl _, hfb, Nat.le_refl _, ⟨by rw [listsTo_from]; rfl, fun i hi => by rw [listsTo_from] at hi; cases hi⟩, .inl ⟨rfl, rfl, rfl⟩, fun _ => rfl, hH⟩ ?_
    clear hH
    rintro ⟨k, ov, vs, Mo, Mi, n1⟩ H1 ⟨hfk, hk, hn1, hR, hOr, hO0, hH1⟩
    simp only at hfk hk hn1 hR hOr hO0 hH1
    have hOwn : Own 22 1 ov vs Mo := by
      rcases hOr with ⟨rfl, rfl, rfl⟩ | h
      · exact .nil
      · exact h.own
    have hS1 := hSF.mono (M' := Mo ++ (Mi ++ (F ++ M))) fun p hp => List.mem_append_right _ (List.mem_append_right _ hp)
    dsimp only [List.cons_append, List.nil_append]
    repeat' (first | refine zP ?_ | refine zA ?_ | (refine zM ?_; intro _ _) | refine zX ?_ | (refine zC ?_; intro _ _ _ _) | (refine zS ?_; intro _ _) | (apply Ws <;> intro hg))
    refine WC.condP rfl (fun hlt => ?_) (fun hlt => ?_)
    · have hk' : k < n := by omega
      repeat' (first | refine zP ?_ | refine zA ?_ | (refine zM ?_; intro _ _) | refine zX ?_ | (refine zC ?_; intro _ _ _ _) | (refine zS ?_; intro _ _) | (apply Ws <;> intro hg))
      refine WR.copyRow rfl rfl rfl rfl rfl rfl hH1 hS1 (fun h => h0 (by simpa using h)) (nodes_one b) (by simp; omega) fun v36 Mb n2 H2 hOb hH2 hn2 => ?_
      repeat' (first | refine zP ?_ | refine zA ?_ | (refine zM ?_; intro _ _) | refine zX ?_ | (refine zC ?_; intro _ _ _ _) | (refine zS ?_; intro _ _) | (apply Ws <;> intro hg))
      refine WR.append1F [] Mb (Mo ++ (Mi ++ (F ++ M))) rfl rfl rfl rfl hOb hH2 (new := [.int .i64 (k : Int)]) (by rfl) rfl rfl (Nat.le_refl _) (by omega) (by simp; omega) fun v39 Mc n3 H3 hOc hH3 hn3 => ?_
      have hSc := hOc.sl (Mi ++ M)
      rw [show nodes b ++ [Value.int .i64 (k : Int)] = nodes (b ++ [k]) by simp [nodes]] at hSc
      rw [show ((m + 1 : Nat) : Int) - 1 = (m : Int) by omega]
      have hasc2 : (b ++ [k]).Pairwise (· < ·) := by
        refine List.pairwise_append.2 ⟨hasc, List.pairwise_singleton _ _, fun x hx y hy => ?_⟩
        rw [List.mem_singleton.1 hy]
        rcases List.eq_nil_or_concat b with rfl | ⟨b', z, rfl⟩
        · cases hx
        · rw [List.concat_eq_append] at hx hasc hfk
          rw [fromB_snoc] at hfk
          rcases List.mem_append.1 hx with h | h
          · have := (List.pairwise_append.1 hasc).2.2 x h z (by simp); omega
          · rw [List.mem_singleton.1 h]; omega
      have hbn2 : ∀ x ∈ b ++ [k], x < n := fun x hx => by
        rcases List.mem_append.1 hx with h | h
        · exact hbn x h
        · rw [List.mem_singleton.1 h]; exact hk'
      have hH3' : hasH ((Mo ++ F) ++ (Mc ++ (Mi ++ M))) n3 H3 := hH3.perm (by classical exact List.perm_iff_count.2 (fun a => by simp only [List.nil_append, List.count_append]; omega))
      refine WR.call (by first | exact gN | exact gS rfl) rfl rfl (lists_fs hn m hH3' hSc (fun h => by simp at h) hasc2 hbn2 (by simp; omega)) ?_
      rintro rv H4 ⟨ws, Mo2, Mi2, n4, hO2, hO20, hR2, hn4, hH4⟩
      clear hH3' hH3 hH2 hH1
      have hlen1 : vs.length ≤ 2 ^ n := by
        rw [hR.1]
        obtain ⟨d, hd⟩ := Nat.exists_eq_add_of_le hk
        have h1 := listsTo_mono (n := n) (m := m) (b := b) (k := k) d
        rw [← hd] at h1
        exact Nat.le_trans h1 (lists_len (m := m + 1) hasc hbn)
      have hlen2 : ws.length ≤ 2 ^ n := by rw [hR2.1]; exact lists_len hasc2 hbn2
      have h256 : 2 ^ n ≤ 256 := Nat.pow_le_pow_right (n := 2) (by omega) hn
      have hR' : RowsN ((Mi2 ++ (Mc ++ Mi)) ++ M) (vs ++ ws) (listsTo n m b (k + 1)) := by
        rw [listsTo_succ hfk]
        refine (hR.mono fun p hp => ?_).app (hR2.mono fun p hp => ?_)
        · rcases List.mem_append.1 hp with h | h <;> simp [h]
        · rw [List.append_assoc, List.append_assoc]; exact hp
      have hsub : (Mi2 ++ ((Mo ++ F) ++ (Mc ++ (Mi ++ M)))).Sublist (Mo2 ++ (Mi2 ++ ((Mo ++ F) ++ (Mc ++ (Mi ++ M))))) := List.sublist_append_right _ _
      have hperm : (Mi2 ++ ((Mo ++ F) ++ (Mc ++ (Mi ++ M)))).Perm (Mo ++ ((Mi2 ++ (Mc ++ Mi)) ++ (F ++ M))) := by classical exact List.perm_iff_count.2 (fun a => by simp only [List.count_append]; omega)
      by_cases hws : ws = []
      · have hrv := hO20 hws
        subst hws
        subst hrv
        rw [List.append_nil] at hR'
        refine WR.append0 (e := 22) (sz := 1) (cs := vs) (Mx := Mo) (by first | exact gN | exact gS rfl) rfl rfl rfl (by
          rcases hOr with ⟨h, _⟩ | h
          · exact .inl h
          · exact .inr h) rfl rfl (by omega) ?_
        repeat' (first | refine zP ?_ | refine zA ?_ | (refine zM ?_; intro _ _) | refine zX ?_ | (refine zC ?_; intro _ _ _ _) | (refine zS ?_; intro _ _) | (apply Ws <;> intro hg))
        exact Ends.loop ⟨k + 1, ov, vs, Mo, Mi2 ++ (Mc ++ Mi), n4⟩ (by show n - (k + 1) < n - k; omega) (by repeat' (first | exact .nil | refine .cons rfl ?_)) rfl ⟨by simp only; omega, hk', by simp only; omega, hR', hOr, hO0, (hH4.sub hsub).perm hperm⟩
      · obtain ⟨hks, hsr⟩ := (hO2.sl (Mi2 ++ ((Mo ++ F) ++ (Mc ++ (Mi ++ M))))).src hH4 hws
        have hwl : 1 ≤ ws.length := by cases ws with | nil => exact absurd rfl hws | cons => simp
        refine WR.appendOR (by first | exact gN | exact gS rfl) rfl rfl rfl hOwn hH4 hsub hperm hks (by have := hsr _ (Nat.le_refl _); rw [List.take_length] at this; exact this) (by simp) hwl hR2.one (by omega) (by omega) (by omega) fun v' Mo' n5 H5 hO5 hH5 hn5 => ?_
        repeat' (first | refine zP ?_ | refine zA ?_ | (refine zM ?_; intro _ _) | refine zX ?_ | (refine zC ?_; intro _ _ _ _) | (refine zS ?_; intro _ _) | (apply Ws <;> intro hg))
        exact Ends.loop ⟨k + 1, v', vs ++ ws, Mo', Mi2 ++ (Mc ++ Mi), n5⟩ (by show n - (k + 1) < n - k; omega) (by repeat' (first | exact .nil | refine .cons rfl ?_)) rfl ⟨by simp only; omega, hk', by simp only; omega, hR', .inr hO5, fun h => absurd (List.append_eq_nil_iff.1 h).2 hws, hH5⟩
    · have hkn : k = n := by omega
      subst hkn
      repeat' (first | refine zP ?_ | refine zA ?_ | (refine zM ?_; intro _ _) | refine zX ?_ | (refine zC ?_; intro _ _ _ _) | (refine zS ?_; intro _ _) | (apply Ws <;> intro hg))
      exact Ends.ret1 rfl ⟨vs, Mo, Mi, n1, hOwn, hO0, hR, hn1, hH1⟩
end Go.Proofs.Ytblopbimchkneaa.Md

namespace Go.Proofs.Ytblopbimchkneaa.Md
open Go Go.Abs Go.Mth
set_option linter.unusedVariables false
set_option linter.unusedSimpArgs false
theorem sub_bit : ∀ c, c < 64 → ∀ x, x < 6 → c.testBit x = true → c - 2 ^ x = c ^^^ 2 ^ x := by decide +kernel
theorem clear_yes {c M x : Nat} (h : (c ^^^ (c &&& M)).testBit x = true) : (c ^^^ (c &&& M)) ^^^ 2 ^ x = c ^^^ (c &&& (M ||| 2 ^ x)) := by
  refine Nat.eq_of_testBit_eq fun i => ?_
  rw [Nat.testBit_xor, Nat.testBit_and] at h
  simp only [Nat.testBit_xor, Nat.testBit_and, Nat.testBit_or, Nat.testBit_two_pow]
  by_cases hi : x = i
  · subst hi
    revert h; cases c.testBit x <;> cases M.testBit x <;> simp
  · simp [hi]
theorem clear_no {c M x : Nat} (h : (c ^^^ (c &&& M)).testBit x = false) : c ^^^ (c &&& M) = c ^^^ (c &&& (M ||| 2 ^ x)) := by
  refine Nat.eq_of_testBit_eq fun i => ?_
  rw [Nat.testBit_xor, Nat.testBit_and] at h
  simp only [Nat.testBit_xor, Nat.testBit_and, Nat.testBit_or, Nat.testBit_two_pow]
  by_cases hi : x = i
  · subst hi
    revert h; cases c.testBit x <;> cases M.testBit x <;> simp
  · simp [hi]
theorem mask_take {l : List Nat} {k : Nat} (h : k < l.length) : maskN (l.take (k + 1)) = maskN (l.take k) ||| 2 ^ l.getD k 0 := by
  rw [List.take_succ_eq_append_getElem h, mask_snoc, getD_eq h]
theorem nqB : ∀ a b : Bool, pureRun C.c.P (binOp .neq 4 (.bool a) (.bool b)) = some (.bool (a != b)) := by
  intro a b
  cases a <;> cases b <;> kernel_rfl
theorem mod_pow_succ (x j : Nat) : x % 2 ^ (j + 1) = x % 2 ^ j + 2 ^ j * (x.testBit j).toNat := by
  rw [Nat.testBit_eq_decide_div_mod_eq, Nat.pow_succ, Nat.mod_mul]
  have := Nat.mod_two_eq_zero_or_one (x / 2 ^ j)
  rcases this with h | h <;> simp [h]
attribute [local irreducible] gOK WS WC WR WD Ends FS YS OpV seqK blockK loopK midK retK rdK asgK rangeEnd sat Cell
section
variable {M : HL} {n0 : Nat} {H : Heap} {v w : Value} {ns : List Nat}
theorem without_fs (hH : hasH M n0 H) (hS : Sl M 1 v (nodes ns)) (hl : ns.length ≤ 61) {l : List Nat} (hU : Sl M 1 w (nodes l)) (hll : l.length ≤ 1000) :
    FS C 73 [v, w] H (fun e H' => ∃ Mx n', Own 3 1 e (nodes (leave ns (maskN l))) Mx ∧ n0 ≤ n' ∧ hasH (Mx ++ M) n' H') := by
  refine FS.intro (pf := pf73) rfl rfl rfl ?_
  repeat' (first | refine zP ?_ | refine zA ?_ | (refine zM ?_; intro _ _) | refine zX ?_ | (refine zC ?_; intro _ _ _ _) | (refine zS ?_; intro _ _) | (apply Ws <;> intro hg))
  refine WC.loopX [(0, _), (1, _)] (fun s : NV => [(5, s.v), (6, .int .i64 (s.k : Int))]) []
    (fun z H' => z.k ≤ ns.length ∧ n0 ≤ z.n ∧ Own 3 1 z.v (nodes (leaveTo ns (maskN l) z.k)) z.Mx ∧ hasH (z.Mx ++ M) z.n H') (fun z => ns.length - z.k) ⟨0, .slice none 0 0, [], [], n0⟩ (by repeat' (first | exact .nil | refine .cons rfl ?_)) rfl
    ⟨Nat.zero_le _, Nat.le_refl _, .nil, hH⟩ ?_
  clear hH
  rintro ⟨k, ov, _, Mx, n1⟩ H1 ⟨hk, hn1, hO, hH1⟩
  simp only at hk hn1 hO hH1
  have hS1 := hS.mono (M' := Mx ++ M) fun p hp => List.mem_append_right _ hp
  have hU1 := hU.mono (M' := Mx ++ M) fun p hp => List.mem_append_right _ hp
  dsimp only [List.cons_append, List.nil_append]
  repeat' (first | refine zP ?_ | refine zA ?_ | (refine zM ?_; intro _ _) | refine zX ?_ | (refine zC ?_; intro _ _ _ _) | (refine zS ?_; intro _ _) | (apply Ws <;> intro hg))
  refine WC.condP rfl (fun hlt => ?_) (fun hlt => ?_)
  · have hk' : k < ns.length := by omega
    repeat' (first | refine zP ?_ | refine zA ?_ | (refine zM ?_; intro _ _) | refine zX ?_ | (refine zC ?_; intro _ _ _ _) | (refine zS ?_; intro _ _) | (apply Ws <;> intro hg))
    refine WC.loopX [(0, _), (1, _), (5, _), (6, _)] (fun s : Nat × Bool => [(7, .bool s.2), (8, .int .i64 (s.1 : Int))]) [] (fun s H' => s.1 ≤ l.length ∧ H' = H1 ∧ s.2 = decide (k ∈ l.take s.1)) (fun s => l.length - s.1) (0, false) (by repeat' (first | exact .nil | refine .cons rfl ?_)) rfl ⟨Nat.zero_le _, rfl, by simp⟩ ?_
    rintro ⟨j, lf⟩ H2 ⟨hj, rfl, hlf⟩
    simp only at hj hlf
    dsimp only [List.cons_append, List.nil_append]
    repeat' (first | refine zP ?_ | refine zA ?_ | (refine zM ?_; intro _ _) | refine zX ?_ | (refine zC ?_; intro _ _ _ _) | (refine zS ?_; intro _ _) | (apply Ws <;> intro hg))
    refine WC.condP rfl (fun hlt2 => ?_) (fun hlt2 => ?_)
    · have hj' : j < l.length := by omega
      have hstep : decide (k ∈ l.take (j + 1)) = (lf || decide ((l.getD j 0 : Int) = k)) := by
        have hmem : k ∈ l.take (j + 1) ↔ k ∈ l.take j ∨ l.getD j 0 = k := by
          rw [List.take_succ_eq_append_getElem hj', List.mem_append, List.mem_singleton, getD_eq hj']
          exact or_congr_right eq_comm
        rw [hlf, Bool.eq_iff_iff]
        simp only [Bool.or_eq_true, decide_eq_true_eq, hmem]
        exact or_congr_right ⟨fun h => by omega, fun h => by omega⟩
      cases lf with
      | true =>
        repeat' (first | refine zP ?_ | refine zA ?_ | (refine zM ?_; intro _ _) | refine zX ?_ | (refine zC ?_; intro _ _ _ _) | (refine zS ?_; intro _ _) | (apply Ws <;> intro hg))
        exact Ends.loop (j + 1, true) (by show l.length - (j + 1) < l.length - j; omega) (by repeat' (first | exact .nil | refine .cons rfl ?_)) rfl ⟨hj', rfl, by rw [hstep]; rfl⟩
      | false =>
        repeat' (first | refine zP ?_ | refine zA ?_ | (refine zM ?_; intro _ _) | refine zX ?_ | (refine zC ?_; intro _ _ _ _) | (refine zS ?_; intro _ _) | (apply Ws <;> intro hg))
        exact Ends.loop (j + 1, decide ((l.getD j 0 : Int) = k)) (by show l.length - (j + 1) < l.length - j; omega) (by repeat' (first | exact .nil | refine .cons rfl ?_)) rfl ⟨hj', rfl, by rw [hstep]; rfl⟩
    have hjl : l.length = j := by omega
    subst hjl
    rw [List.take_length] at hlf
    have hbit : (maskN l).testBit k = lf := by rw [hlf, Bool.eq_iff_iff, mask_bit, decide_eq_true_eq]
    cases lf with
    | false =>
      repeat' (first | refine zP ?_ | refine zA ?_ | (refine zM ?_; intro _ _) | refine zX ?_ | (refine zC ?_; intro _ _ _ _) | (refine zS ?_; intro _ _) | (apply Ws <;> intro hg))
      refine WR.append1F [] Mx M rfl rfl rfl rfl hO hH1 (new := [.int .i64 ((ns.getD k 0 : Nat) : Int)]) (by rfl) rfl rfl (Nat.le_refl _) (by omega) (by have := leave_len ns (maskN l) k; simp; omega) fun v3 M3 n3 H3 hO3 hH3 hn3 => ?_
      repeat' (first | refine zP ?_ | refine zA ?_ | (refine zM ?_; intro _ _) | refine zX ?_ | (refine zC ?_; intro _ _ _ _) | (refine zS ?_; intro _ _) | (apply Ws <;> intro hg))
      refine Ends.loop ⟨k + 1, v3, [], M3, n3⟩ (by show ns.length - (k + 1) < ns.length - k; omega) (by repeat' (first | exact .nil | refine .cons rfl ?_)) rfl ⟨hk', by simp only; omega, ?_, hH3⟩
      simp only
      rw [leave_yes hbit]
      simpa [nodes] using hO3
    | true =>
      repeat' (first | refine zP ?_ | refine zA ?_ | (refine zM ?_; intro _ _) | refine zX ?_ | (refine zC ?_; intro _ _ _ _) | (refine zS ?_; intro _ _) | (apply Ws <;> intro hg))
      refine Ends.loop ⟨k + 1, ov, [], Mx, n1⟩ (by show ns.length - (k + 1) < ns.length - k; omega) (by repeat' (first | exact .nil | refine .cons rfl ?_)) rfl ⟨hk', hn1, ?_, hH1⟩
      simp only
      rw [leave_no hbit]; exact hO
  · have hkl : ns.length = k := by omega
    subst hkl
    repeat' (first | refine zP ?_ | refine zA ?_ | (refine zM ?_; intro _ _) | refine zX ?_ | (refine zC ?_; intro _ _ _ _) | (refine zS ?_; intro _ _) | (apply Ws <;> intro hg))
    exact Ends.ret1 rfl ⟨Mx, n1, hO, hn1, hH1⟩

theorem plain_fs (hH : hasH M n0 H) (hS : Sl M 1 v (nodes ns)) (hl : ns.length ≤ 1000) (hb : ∀ x ∈ ns, x < 64) {l : List Nat} (hU : Sl M 1 w (nodes l)) (hll : l.length ≤ 1000) (hlb : ∀ x ∈ l, x < 6) :
    FS C 76 [v, w] H (fun e H' => ∃ Mx n', Own 3 1 e (nodes (wearL ns (maskN l))) Mx ∧ n0 ≤ n' ∧ hasH (Mx ++ M) n' H') := by
  refine FS.intro (pf := pf76) rfl rfl rfl ?_
  repeat' (first | refine zP ?_ | refine zA ?_ | (refine zM ?_; intro _ _) | refine zX ?_ | (refine zC ?_; intro _ _ _ _) | (refine zS ?_; intro _ _) | (apply Ws <;> intro hg))
  refine WC.loopX [(0, _), (1, _)] (fun s : NV => [(5, s.v), (6, .int .i64 (s.k : Int))]) []
    (fun z H' => z.k ≤ ns.length ∧ n0 ≤ z.n ∧ Own 3 1 z.v (nodes (wearL (ns.take z.k) (maskN l))) z.Mx ∧ hasH (z.Mx ++ M) z.n H') (fun z => ns.length - z.k) ⟨0, .slice none 0 0, [], [], n0⟩ (by repeat' (first | exact .nil | refine .cons rfl ?_)) rfl
    ⟨Nat.zero_le _, Nat.le_refl _, .nil, hH⟩ ?_
  clear hH
  rintro ⟨k, ov, _, Mx, n1⟩ H1 ⟨hk, hn1, hO, hH1⟩
  simp only at hk hn1 hO hH1
  have hS1 := hS.mono (M' := Mx ++ M) fun p hp => List.mem_append_right _ hp
  have hU1 := hU.mono (M' := Mx ++ M) fun p hp => List.mem_append_right _ hp
  dsimp only [List.cons_append, List.nil_append]
  repeat' (first | refine zP ?_ | refine zA ?_ | (refine zM ?_; intro _ _) | refine zX ?_ | (refine zC ?_; intro _ _ _ _) | (refine zS ?_; intro _ _) | (apply Ws <;> intro hg))
  refine WC.condP rfl (fun hlt => ?_) (fun hlt => ?_)
  · have hk' : k < ns.length := by omega
    have hx := hb _ (getD_mem (a := 0) hk')
    repeat' (first | refine zP ?_ | refine zA ?_ | (refine zM ?_; intro _ _) | refine zX ?_ | (refine zC ?_; intro _ _ _ _) | (refine zS ?_; intro _ _) | (apply Ws <;> intro hg))
    obtain ⟨c, hc⟩ : ∃ c, ns.getD k 0 = c := ⟨_, rfl⟩
    rw [hc] at hx ⊢
    refine WC.loopX [(0, _), (1, _), (5, _), (6, _)] (fun s : Nat × Nat => [(7, .int .i64 (s.2 : Int)), (8, .int .i64 (s.1 : Int))]) [] (fun s H' => s.1 ≤ l.length ∧ H' = H1 ∧ s.2 = c ^^^ (c &&& maskN (l.take s.1))) (fun s => l.length - s.1) (0, c) (by repeat' (first | exact .nil | refine .cons rfl ?_)) rfl ⟨Nat.zero_le _, rfl, by simp [maskN]⟩ ?_
    rintro ⟨j, d⟩ H2 ⟨hj, rfl, hd⟩
    simp only at hj hd
    have hd64 : d < 64 := by rw [hd]; exact Nat.xor_lt_two_pow (n := 6) hx (Nat.lt_of_le_of_lt Nat.and_le_left hx)
    dsimp only [List.cons_append, List.nil_append]
    repeat' (first | refine zP ?_ | refine zA ?_ | (refine zM ?_; intro _ _) | refine zX ?_ | (refine zC ?_; intro _ _ _ _) | (refine zS ?_; intro _ _) | (apply Ws <;> intro hg))
    refine WC.condP rfl (fun hlt2 => ?_) (fun hlt2 => ?_)
    · have hj' : j < l.length := by omega
      have hx6 := hlb _ (getD_mem (a := 0) hj')
      repeat' (first | refine zP ?_ | refine zA ?_ | (refine zM ?_; intro _ _) | refine zX ?_ | (refine zC ?_; intro _ _ _ _) | (refine zS ?_; intro _ _) | (apply Ws <;> intro hg))
      refine WR.call (by first | exact gN | exact gS rfl) rfl rfl (rhas_fs (c := d) (a := l.getD j 0) (by omega) (by omega) _) ?_
      rintro _ H3 ⟨rfl, rfl⟩
      cases hbit : d.testBit (l.getD j 0) with
      | true =>
        repeat' (first | refine zP ?_ | refine zA ?_ | (refine zM ?_; intro _ _) | refine zX ?_ | (refine zC ?_; intro _ _ _ _) | (refine zS ?_; intro _ _) | (apply Ws <;> intro hg))
        refine WR.op (by first | exact gN | exact gS rfl) rfl (OpV.shl1 rfl rfl (by show l.getD j 0 ≤ 64; omega) (pow_lt_63 (by omega))) ?_
        have hge : 2 ^ l.getD j 0 ≤ d := Nat.ge_two_pow_of_testBit hbit
        have hsub := sub_bit d hd64 _ hx6 hbit
        obtain ⟨p, hp⟩ : ∃ p, 2 ^ l.getD j 0 = p := ⟨_, rfl⟩
        rw [hp] at hge
        rw [hp]
        repeat' (first | refine zP ?_ | refine zA ?_ | (refine zM ?_; intro _ _) | refine zX ?_ | (refine zC ?_; intro _ _ _ _) | (refine zS ?_; intro _ _) | (apply Ws <;> intro hg))
        rw [show (d : Int) - (p : Int) = ((d - p : Nat) : Int) by omega]
        refine Ends.loop (j + 1, d - p) (by show l.length - (j + 1) < l.length - j; omega) (by repeat' (first | exact .nil | refine .cons rfl ?_)) rfl ⟨hj', rfl, ?_⟩
        simp only
        rw [← hp, hsub, mask_take hj', hd]
        rw [hd] at hbit
        exact clear_yes hbit
      | false =>
        repeat' (first | refine zP ?_ | refine zA ?_ | (refine zM ?_; intro _ _) | refine zX ?_ | (refine zC ?_; intro _ _ _ _) | (refine zS ?_; intro _ _) | (apply Ws <;> intro hg))
        refine Ends.loop (j + 1, d) (by show l.length - (j + 1) < l.length - j; omega) (by repeat' (first | exact .nil | refine .cons rfl ?_)) rfl ⟨hj', rfl, ?_⟩
        simp only
        rw [mask_take hj', hd]
        rw [hd] at hbit
        exact clear_no hbit
    have hjl : l.length = j := by omega
    subst hjl
    rw [List.take_length] at hd
    subst hd
    repeat' (first | refine zP ?_ | refine zA ?_ | (refine zM ?_; intro _ _) | refine zX ?_ | (refine zC ?_; intro _ _ _ _) | (refine zS ?_; intro _ _) | (apply Ws <;> intro hg))
    refine WR.append1F [] Mx M rfl rfl rfl rfl hO hH1 (new := [.int .i64 ((c ^^^ (c &&& maskN l) : Nat) : Int)]) (by rfl) rfl rfl (Nat.le_refl _) (by omega) (by simp [wearL]; omega) fun v3 M3 n3 H3 hO3 hH3 hn3 => ?_
    repeat' (first | refine zP ?_ | refine zA ?_ | (refine zM ?_; intro _ _) | refine zX ?_ | (refine zC ?_; intro _ _ _ _) | (refine zS ?_; intro _ _) | (apply Ws <;> intro hg))
    refine Ends.loop ⟨k + 1, v3, [], M3, n3⟩ (by show ns.length - (k + 1) < ns.length - k; omega) (by repeat' (first | exact .nil | refine .cons rfl ?_)) rfl ⟨hk', by simp only; omega, ?_, hH3⟩
    simp only
    rw [List.take_succ_eq_append_getElem hk', wearL, List.map_append, ← getD_eq (a := 0) hk', hc]
    simpa [nodes, wearL] using hO3
  · have hkl : ns.length = k := by omega
    subst hkl
    rw [List.take_length] at hO
    repeat' (first | refine zP ?_ | refine zA ?_ | (refine zM ?_; intro _ _) | refine zX ?_ | (refine zC ?_; intro _ _ _ _) | (refine zS ?_; intro _ _) | (apply Ws <;> intro hg))
    exact Ends.ret1 rfl ⟨Mx, n1, hO, hn1, hH1⟩

theorem rModel_fs (hH : hasH M n0 H) (hS : Sl M 1 v (nodes ns)) (hl : ns.length ≤ 8) {N : Nat} (hN1 : 1 ≤ N) (hN : N ≤ 6) (hb : ∀ x ∈ ns, x < 2 ^ N) :
    FS C 35 [.int .i64 (N : Int), v] H (fun e H' => ∃ k f, e = .tuple #[.int .i64 k, .int .i64 f] ∧ ModR N ns k f ∧ ∃ n', n0 ≤ n' ∧ hasH M n' H') := by
  have hSI : Unit → Sl M 1 v (ints (ns.map fun (x : Nat) => (x : Int))) := fun _ => by rw [← nodesI]; exact hS
  have hb62 := lt_62 hN hb
  have hp62 := pow_le_62 (N := N) (by omega)
  have hp64 := pow_64 hN
  refine FS.intro (pf := pf35) rfl rfl rfl ?_
  repeat' (first | refine zP ?_ | refine zA ?_ | (refine zM ?_; intro _ _) | refine zX ?_ | (refine zC ?_; intro _ _ _ _) | (refine zS ?_; intro _ _) | (apply Ws <;> intro hg))
  refine WR.call (by first | exact gN | exact gS rfl) rfl rfl (rCheck_fs hH (hSI ()) (by simp; omega) _) ?_
  rintro _ H1 ⟨rfl, rfl⟩
  rw [casts_intro hN1 hN hl hb]
  repeat' (first | refine zP ?_ | refine zA ?_ | (refine zM ?_; intro _ _) | refine zX ?_ | (refine zC ?_; intro _ _ _ _) | (refine zS ?_; intro _ _) | refine zO ?_ | (apply Ws <;> intro hg))
  obtain ⟨B, hB⟩ : ∃ B, 2 ^ N = B := ⟨_, rfl⟩
  refine WC.loopX [(0, _), (1, _)] (fun s : Nat × Nat => [(7, .int .i64 (s.1 : Int))]) [] (fun s H' => s.1 ≤ B ∧ n0 ≤ s.2 ∧ hasH M s.2 H' ∧ ∀ j, j < s.1 → honB N (xorL ns j) = false) (fun s => B - s.1) (0, n0) (by repeat' (first | exact .nil | refine .cons rfl ?_)) rfl ⟨Nat.zero_le _, Nat.le_refl _, hH, fun x h => absurd h (Nat.not_lt_zero _)⟩ ?_
  clear hH
  rintro ⟨k, n1⟩ H2 ⟨hk, hn1, hH2, hno⟩
  simp only at hk hn1 hH2 hno
  dsimp only [List.cons_append, List.nil_append]
  repeat' (first | refine zP ?_ | refine zA ?_ | (refine zM ?_; intro _ _) | refine zX ?_ | (refine zC ?_; intro _ _ _ _) | (refine zS ?_; intro _ _) | (apply Ws <;> intro hg))
  refine WR.op (by first | exact gN | exact gS rfl) rfl (OpV.shl1 rfl rfl (by show N ≤ 64; omega) (pow_lt_63 (by omega))) ?_
  rw [hB] at hp62 hp64 ⊢
  repeat' (first | refine zP ?_ | refine zA ?_ | (refine zM ?_; intro _ _) | refine zX ?_ | (refine zC ?_; intro _ _ _ _) | (refine zS ?_; intro _ _) | (apply Ws <;> intro hg))
  refine WC.condP rfl (fun hlt => ?_) (fun hlt => ?_)
  · have hk' : k < B := by omega
    repeat' (first | refine zP ?_ | refine zA ?_ | (refine zM ?_; intro _ _) | refine zX ?_ | (refine zC ?_; intro _ _ _ _) | (refine zS ?_; intro _ _) | (apply Ws <;> intro hg))
    refine WC.loopX [(0, _), (1, _), (7, _)] (fun s : NV => [(8, s.v), (9, .int .i64 (s.k : Int))]) []
      (fun z H' => z.k ≤ ns.length ∧ n0 ≤ z.n ∧ Own 3 1 z.v (nodes (xorL (ns.take z.k) k)) z.Mx ∧ hasH (z.Mx ++ M) z.n H') (fun z => ns.length - z.k) ⟨0, .slice none 0 0, [], [], n1⟩ (by repeat' (first | exact .nil | refine .cons rfl ?_)) rfl
      ⟨Nat.zero_le _, hn1, .nil, hH2⟩ ?_
    clear hH2
    rintro ⟨i, ov, _, Mx, n2⟩ H3 ⟨hi, hn2, hO, hH3⟩
    simp only at hi hn2 hO hH3
    have hS3 := hS.mono (M' := Mx ++ M) fun p hp => List.mem_append_right _ hp
    dsimp only [List.cons_append, List.nil_append]
    repeat' (first | refine zP ?_ | refine zA ?_ | (refine zM ?_; intro _ _) | refine zX ?_ | (refine zC ?_; intro _ _ _ _) | (refine zS ?_; intro _ _) | (apply Ws <;> intro hg))
    refine WC.condP rfl (fun hlt2 => ?_) (fun hlt2 => ?_)
    · have hi' : i < ns.length := by omega
      have hx := hb _ (getD_mem (a := 0) hi')
      repeat' (first | refine zP ?_ | refine zA ?_ | (refine zM ?_; intro _ _) | refine zX ?_ | (refine zC ?_; intro _ _ _ _) | (refine zS ?_; intro _ _) | (apply Ws <;> intro hg))
      refine WC.loopX [(0, _), (1, _), (7, _), (8, _), (9, _)] (fun s : Nat => [(10, .int .i64 (((ns.getD i 0 ^^^ k) % 2 ^ s : Nat) : Int)), (11, .int .i64 (s : Int))]) [] (fun s H' => s ≤ N ∧ H' = H3) (fun s => N - s) 0 (by
        refine .cons ?_ (by repeat' (first | exact .nil | refine .cons rfl ?_))
        rw [Nat.pow_zero, Nat.mod_one]; rfl) rfl ⟨Nat.zero_le _, rfl⟩ ?_
      rintro j H4 ⟨hj, rfl⟩
      dsimp only [List.cons_append, List.nil_append]
      repeat' (first | refine zP ?_ | refine zA ?_ | (refine zM ?_; intro _ _) | refine zX ?_ | (refine zC ?_; intro _ _ _ _) | (refine zS ?_; intro _ _) | (apply Ws <;> intro hg))
      refine WC.condP rfl (fun hlt3 => ?_) (fun hlt3 => ?_)
      · have hj' : j < N := by omega
        repeat' (first | refine zP ?_ | refine zA ?_ | (refine zM ?_; intro _ _) | refine zX ?_ | (refine zC ?_; intro _ _ _ _) | (refine zS ?_; intro _ _) | (apply Ws <;> intro hg))
        refine WR.call (by first | exact gN | exact gS rfl) rfl rfl (rhas_fs (c := ns.getD i 0) (a := j) (hb62 _ (getD_mem (a := 0) hi')) (by omega) _) ?_
        rintro _ H5 ⟨rfl, rfl⟩
        repeat' (first | refine zP ?_ | refine zA ?_ | (refine zM ?_; intro _ _) | refine zX ?_ | (refine zC ?_; intro _ _ _ _) | (refine zS ?_; intro _ _) | (apply Ws <;> intro hg))
        refine WR.call (by first | exact gN | exact gS rfl) rfl rfl (rhas_fs (c := k) (a := j) (by omega) (by omega) _) ?_
        rintro _ H5 ⟨rfl, rfl⟩
        refine WR.op (by first | exact gN | exact gS rfl) rfl (OpV.neB (nqB _ _) rfl rfl) ?_
        have hxb : ((ns.getD i 0).testBit j != k.testBit j) = (ns.getD i 0 ^^^ k).testBit j := by rw [Nat.testBit_xor]
        rw [hxb]
        have hm := mod_pow_succ (ns.getD i 0 ^^^ k) j
        have hml : (ns.getD i 0 ^^^ k) % 2 ^ j < 2 ^ j := Nat.mod_lt _ (Nat.two_pow_pos j)
        have hj6 : 2 ^ j ≤ 64 := pow_64 (by omega)
        obtain ⟨x, hxx⟩ : ∃ x, ns.getD i 0 ^^^ k = x := ⟨_, rfl⟩
        rw [hxx] at hm hml ⊢
        cases hbit : x.testBit j with
        | true =>
          rw [hbit] at hm
          repeat' (first | refine zP ?_ | refine zA ?_ | (refine zM ?_; intro _ _) | refine zX ?_ | (refine zC ?_; intro _ _ _ _) | (refine zS ?_; intro _ _) | (apply Ws <;> intro hg))
          refine WR.op (by first | exact gN | exact gS rfl) rfl (OpV.shl1 rfl rfl (by show j ≤ 64; omega) (pow_lt_63 (by omega))) ?_
          simp only [Bool.toNat_true, Nat.mul_one] at hm
          obtain ⟨p, hp⟩ : ∃ p, 2 ^ j = p := ⟨_, rfl⟩
          obtain ⟨y, hy⟩ : ∃ y, x % 2 ^ j = y := ⟨_, rfl⟩
          rw [hy] at hm hml ⊢
          rw [hp] at hm hml hj6 ⊢
          repeat' (first | refine zP ?_ | refine zA ?_ | (refine zM ?_; intro _ _) | refine zX ?_ | (refine zC ?_; intro _ _ _ _) | (refine zS ?_; intro _ _) | (apply Ws <;> intro hg))
          refine Ends.loop (j + 1) (by show N - (j + 1) < N - j; omega) (.cons ?_ (by repeat' (first | exact .nil | refine .cons rfl ?_))) rfl ⟨hj', rfl⟩
          rw [hm, Int.natCast_add]; rfl
        | false =>
          rw [hbit] at hm
          repeat' (first | refine zP ?_ | refine zA ?_ | (refine zM ?_; intro _ _) | refine zX ?_ | (refine zC ?_; intro _ _ _ _) | (refine zS ?_; intro _ _) | (apply Ws <;> intro hg))
          refine Ends.loop (j + 1) (by show N - (j + 1) < N - j; omega) (.cons ?_ (by repeat' (first | exact .nil | refine .cons rfl ?_))) rfl ⟨hj', rfl⟩
          rw [hm]; simp only [Bool.toNat_false, Nat.mul_zero, Nat.add_zero]; rfl
      have hjN : N = j := by omega
      subst hjN
      have hxlt : ns.getD i 0 ^^^ k < 2 ^ N := Nat.xor_lt_two_pow hx (by omega)
      rw [Nat.mod_eq_of_lt hxlt]
      repeat' (first | refine zP ?_ | refine zA ?_ | (refine zM ?_; intro _ _) | refine zX ?_ | (refine zC ?_; intro _ _ _ _) | (refine zS ?_; intro _ _) | (apply Ws <;> intro hg))
      refine WR.append1F [] Mx M rfl rfl rfl rfl hO hH3 (new := [.int .i64 ((ns.getD i 0 ^^^ k : Nat) : Int)]) (by rfl) rfl rfl (Nat.le_refl _) (by omega) (by simp [xorL]; omega) fun v3 M3 n3 H4 hO3 hH4 hn3 => ?_
      repeat' (first | refine zP ?_ | refine zA ?_ | (refine zM ?_; intro _ _) | refine zX ?_ | (refine zC ?_; intro _ _ _ _) | (refine zS ?_; intro _ _) | (apply Ws <;> intro hg))
      refine Ends.loop ⟨i + 1, v3, [], M3, n3⟩ (by show ns.length - (i + 1) < ns.length - i; omega) (by repeat' (first | exact .nil | refine .cons rfl ?_)) rfl ⟨hi', by simp only; omega, ?_, hH4⟩
      simp only
      rw [List.take_succ_eq_append_getElem hi', xorL, List.map_append, ← getD_eq (a := 0) hi']
      simpa [nodes, xorL] using hO3
    have hil : ns.length = i := by omega
    subst hil
    rw [List.take_length] at hO
    repeat' (first | refine zP ?_ | refine zA ?_ | (refine zM ?_; intro _ _) | refine zX ?_ | (refine zC ?_; intro _ _ _ _) | (refine zS ?_; intro _ _) | (apply Ws <;> intro hg))
    refine WR.call (by first | exact gN | exact gS rfl) rfl rfl (rhonest_fs hH3 (hO.sl M) (by simp [xorL]; omega) (lt_62 hN (xorL_lt hb (by omega))) (by omega)) ?_
    rintro _ H4 ⟨rfl, rfl⟩
    have hH5 := hH3.sub (List.sublist_append_right Mx M)
    cases hh : honB N (xorL ns k) with
    | true =>
      repeat' (first | refine zP ?_ | refine zA ?_ | (refine zM ?_; intro _ _) | refine zX ?_ | (refine zC ?_; intro _ _ _ _) | (refine zS ?_; intro _ _) | (apply Ws <;> intro hg))
      exact Ends.ret2 rfl rfl ⟨_, _, rfl, ⟨(k : Int), .inl ⟨k, by omega, hh, hno, rfl⟩, by rw [if_neg (by omega)], by rw [if_neg (by omega)]⟩, n2, by omega, hH5⟩
    | false =>
      repeat' (first | refine zP ?_ | refine zA ?_ | (refine zM ?_; intro _ _) | refine zX ?_ | (refine zC ?_; intro _ _ _ _) | (refine zS ?_; intro _ _) | (apply Ws <;> intro hg))
      refine Ends.loop (k + 1, n2) (by show B - (k + 1) < B - k; omega) (by repeat' (first | exact .nil | refine .cons rfl ?_)) rfl ⟨hk', by simp only; omega, hH5, fun j hj => ?_⟩
      replace hj : j < k + 1 := hj
      rcases Nat.lt_or_ge j k with h | h
      · exact hno j h
      · have : j = k := by omega
        subst this; exact hh
  · have hkB : k = B := by omega
    repeat' (first | refine zP ?_ | refine zA ?_ | (refine zM ?_; intro _ _) | refine zX ?_ | (refine zC ?_; intro _ _ _ _) | (refine zS ?_; intro _ _) | (apply Ws <;> intro hg))
    exact Ends.ret2 rfl rfl ⟨_, _, rfl, ⟨-1, .inr ⟨fun j hj => hno j (by omega), rfl⟩, rfl, rfl⟩, n1, hn1, hH2⟩
end
end Go.Proofs.Ytblopbimchkneaa.Md

namespace Go.Proofs.Ytblopbimchkneaa.Md
open Go Go.Abs Go.Mth
set_option linter.unusedVariables false
set_option linter.unusedSimpArgs false
def fourB (ns : List Nat) (a b : Nat) : Bool := metB ns a b ns.length 0 && metB ns a b ns.length 1 && metB ns a b ns.length 2 && metB ns a b ns.length 3
theorem LM.step {P : Nat → Bool} {k : Nat} {r : Int} (h : LM P k r) (hr : 0 ≤ r ∨ P k = false) : LM P (k + 1) r := by
  rcases h with ⟨w, h1, h2, h3, rfl⟩ | ⟨h1, rfl⟩
  · exact .inl ⟨w, by omega, h2, h3, rfl⟩
  · rcases hr with h | h
    · omega
    · refine .inr ⟨fun j hj => ?_, rfl⟩
      rcases Nat.lt_or_ge j k with h4 | h4
      · exact h1 j h4
      · have : j = k := by omega
        subst this; exact h
theorem LM.now {P : Nat → Bool} {k : Nat} {r : Int} (h : LM P k r) (hr : r < 0) (hk : P k = true) : LM P (k + 1) (k : Int) := by
  rcases h with ⟨w, h1, h2, h3, rfl⟩ | ⟨h1, rfl⟩
  · omega
  · exact .inl ⟨k, by omega, hk, h1, rfl⟩
theorem LM.some {P : Nat → Bool} {k j : Nat} {r : Int} (h : LM P k r) (hj : j < k) (hp : P j = true) : 0 ≤ r := by
  rcases h with ⟨w, h1, h2, h3, rfl⟩ | ⟨h1, rfl⟩
  · omega
  · rw [h1 j hj] at hp; cases hp
theorem LM.none {P : Nat → Bool} {k : Nat} {r : Int} (h : LM P k r) (hp : ∀ j, j < k → P j = false) : r = -1 := by
  rcases h with ⟨w, h1, h2, h3, rfl⟩ | ⟨h1, rfl⟩
  · rw [hp w h1] at h2; cases h2
  · rfl
structure LS where
  k : Nat
  n : Nat
  f : Bool
structure LW where
  k : Nat
  n : Nat
  w : Int
attribute [local irreducible] gOK WS WC WR WD Ends FS YS OpV seqK blockK loopK midK retK rdK asgK rangeEnd sat Cell
section
variable {M : HL} {n0 : Nat} {H : Heap} {v : Value} {ns : List Nat}
end
end Go.Proofs.Ytblopbimchkneaa.Md
