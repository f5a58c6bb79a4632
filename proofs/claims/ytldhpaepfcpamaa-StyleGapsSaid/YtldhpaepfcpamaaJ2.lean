/- Texts of the law, joined. -/
import Derived.Test.YtldhpaepfcpamaaJ1
import Derived.Test.YtldhpaepfcpamaaSymR
namespace Go.Proofs.Ytldhpaepfcpamaa.St
open Go Go.Abs Go.Mth
set_option linter.unusedVariables false
set_option linter.unusedSimpArgs false
theorem u8k : C.c.P.underlying 5 = some (.int .u8) := by kernel_rfl
theorem i64k : C.c.P.underlying 3 = some (.int .i64) := by kernel_rfl
attribute [local irreducible] gOK WS WC WR WD Ends FS YS OpV seqK blockK loopK midK retK rdK asgK rangeEnd sat Cell

section
variable {M : HL} {n0 : Nat} {H : Heap} {v w : Value} {fs : List (List Int)} {o : List Int}

/-- Some elements less. -/
theorem Delete_fs {b u o len cp R i j : Nat} {ys : List Int} (hH : hasH ((b, .row 3 u o (ints ys)) :: M) n0 H) (hc : capR cp len R) (hly : len ≤ ys.length) (hij : i < j) (hjl : j ≤ len) (hyl : ys.length ≤ 100000) :
    FS C 84 [.slice (some ⟨b, o, some u⟩) len cp, .int .i64 (i : Int), .int .i64 (j : Int)] H (fun e H' => ∃ zs, e = .slice (some ⟨b, o, some u⟩) (len - (j - i)) (roomCode 1 R) ∧ hasH ((b, .row 3 u o (ints zs)) :: M) n0 H' ∧
      zs.length = ys.length ∧ zs.take (len - (j - i)) = ys.take i ++ (ys.take len).drop j) := by
  have hR := hc.le
  refine FS.intro (pf := pf84) rfl rfl rfl ?_
  repeat' (first | refine zA ?_ | (refine zM ?_; intro _ _) | refine zX ?_ | (refine zC ?_; intro _ _ _ _) | (refine zS ?_; intro _ _) | (apply Ws <;> intro hg))
  refine WR.cutMax (by first | exact gN | exact gS rfl) rfl rfl hc rfl rfl rfl (Nat.le_of_lt hij) hjl (Nat.le_refl _) (by omega) fun v13 => ?_
  repeat' (first | refine zA ?_ | (refine zM ?_; intro _ _) | refine zX ?_ | (refine zC ?_; intro _ _ _ _) | (refine zS ?_; intro _ _) | refine zO ?_ | (apply Ws <;> intro hg))
  refine WR.op (by first | exact gN | exact gS rfl) rfl (OpV.cutPre rfl hc rfl (by omega) (by omega)) ?_
  repeat' (first | refine zA ?_ | (refine zM ?_; intro _ _) | refine zX ?_ | (refine zC ?_; intro _ _ _ _) | (refine zS ?_; intro _ _) | (apply Ws <;> intro hg))
  refine WR.cutSuf (by first | exact gN | exact gS rfl) rfl rfl hc rfl hjl fun cp' => ?_
  refine WR.appendR (M' := (b, .row 3 u o (ints (ys.take i ++ (ys.drop j).take (len - j) ++ ys.drop (i + (len - j))))) :: M) (by first | exact gN | exact gS rfl) rfl rfl rfl hH .here (by omega) (by omega) (by omega) fun H1 hH1 => ?_
  have hl2 : i + (len - j) = len - (j - i) := by omega
  rw [hl2] at hH1 ⊢
  obtain ⟨zs, hzs⟩ : ∃ zs, ys.take i ++ (ys.drop j).take (len - j) ++ ys.drop (len - (j - i)) = zs := ⟨_, rfl⟩
  rw [hzs] at hH1
  have hzl : zs.length = ys.length := by rw [← hzs]; simp; omega
  have hzt : zs.take (len - (j - i)) = ys.take i ++ (ys.take len).drop j := by
    rw [← hzs, List.take_append_of_le_length (by simp; omega), List.take_of_length_le (by simp; omega), List.drop_take]
  repeat' (first | refine zA ?_ | (refine zM ?_; intro _ _) | refine zX ?_ | (refine zC ?_; intro _ _ _ _) | (refine zS ?_; intro _ _) | (apply Ws <;> intro hg))
  refine WR.cutOver (by first | exact gN | exact gS rfl) rfl rfl (by omega) rfl rfl (by omega) (by omega) fun cp2 => ?_
  refine WR.clrI (M' := (b, .row 3 u o (ints (zs.take (len - (j - i)) ++ List.replicate (len - (len - (j - i))) 0 ++ zs.drop (len - (j - i) + (len - (len - (j - i))))))) :: M) (by first | exact gN | exact gS rfl) rfl hH1 .here (by omega) (by omega) fun H2 hH2 => ?_
  repeat' (first | refine zA ?_ | (refine zM ?_; intro _ _) | refine zX ?_ | (refine zC ?_; intro _ _ _ _) | (refine zS ?_; intro _ _) | (apply Ws <;> intro hg))
  refine Ends.ret1 rfl ⟨_, rfl, hH2, by simp; omega, ?_⟩
  rw [List.append_assoc, List.take_append_of_le_length (by simp; omega), List.take_of_length_le (by simp; omega), hzt]

theorem Clone_fs (hH : hasH M n0 H) (hS : Sl M 1 v (ints o)) (hx : o.length ≤ 1000) (hx1 : 1 ≤ o.length) :
    FS C 50 [v] H (fun e H' => ∃ b n', e = .slice (some ⟨b, 0, some 0⟩) o.length (2 * 1) ∧ n0 ≤ n' ∧ hasH ((b, .row 3 0 0 (ints o)) :: M) n' H') := by
  have hne : ints o ≠ [] := fun h => by have := List.map_eq_nil_iff.1 h; subst this; simp at hx1
  have hsm : ∃ a len cap, v = .slice (some a) len cap := by
    generalize ints o = cs at hS hne
    cases hS with
    | nil c => exact absurd rfl hne
    | emp a => exact ⟨_, _, _, rfl⟩
    | row => exact ⟨_, _, _, rfl⟩
  obtain ⟨a, len, cap, rfl⟩ := hsm
  refine FS.intro (pf := pf50) rfl rfl rfl ?_
  repeat' (first | refine zA ?_ | (refine zM ?_; intro _ _) | refine zX ?_ | (refine zC ?_; intro _ _ _ _) | (refine zS ?_; intro _ _) | (apply Ws <;> intro hg))
  refine WR.bldS (by first | exact gN | exact gS rfl) rfl hH (vs := []) rfl (cs := []) (by rfl) rfl fun H3 hH3 => ?_
  repeat' (first | refine zA ?_ | (refine zM ?_; intro _ _) | refine zX ?_ | (refine zC ?_; intro _ _ _ _) | (refine zS ?_; intro _ _) | (apply Ws <;> intro hg))
  obtain ⟨hk, hsr⟩ := (hS.cons (p := (n0, .row 3 0 0 []))).src hH3 hne
  rw [show (ints o).length = o.length by simp] at hk
  refine WR.appendNew (by first | exact gN | exact gS rfl) rfl rfl rfl hH3 (.head _) (.row _ _ _ _) (Nat.zero_le _) (Nat.zero_le _) hk (by have := hsr _ (Nat.le_refl _); rw [List.take_length, show (ints o).length = o.length by simp] at this; exact this) (by simp) hx1 (by rw [List.all_eq_true]; intro q hq; obtain ⟨z, _, rfl⟩ := List.mem_map.1 hq; rfl) (by omega) (by omega) (by omega) fun H' hH' => ?_
  repeat' (first | refine zA ?_ | (refine zM ?_; intro _ _) | refine zX ?_ | (refine zC ?_; intro _ _ _ _) | (refine zS ?_; intro _ _) | (apply Ws <;> intro hg))
  exact Ends.ret1 rfl ⟨n0 + 1, n0 + 2, rfl, by omega, hH'.sub (.cons_cons _ (List.sublist_cons_self _ _))⟩

/-- In the opposite order. -/
theorem Reverse_fs {b u m cp : Nat} (hH : hasH ((b, .row 3 u 0 (ints o)) :: M) n0 H) (hol : o.length ≤ 1000) :
    FS C 51 [.slice (some ⟨b, 0, some u⟩) o.length cp] H (fun e H' => hasH ((b, .row 3 u 0 (ints o.reverse)) :: M) n0 H') := by
  refine FS.intro (pf := pf51) rfl rfl rfl ?_
  repeat' (first | refine zA ?_ | (refine zM ?_; intro _ _) | refine zX ?_ | (refine zC ?_; intro _ _ _ _) | (refine zS ?_; intro _ _) | (apply Ws <;> intro hg))
  refine WC.loopX [(0, .slice (some ⟨b, 0, some u⟩) o.length cp)] (fun s : Nat × List Int => [(2, .int .i64 (s.1 : Int)), (3, .int .i64 ((o.length : Int) - 1 - s.1))]) []
    (fun s H' => hasH ((b, .row 3 u 0 (ints s.2)) :: M) n0 H' ∧ 2 * s.1 ≤ o.length ∧ s.2.length = o.length ∧ ∀ k, k < o.length → s.2.getD k 0 = if k < s.1 ∨ o.length - s.1 ≤ k then o.getD (o.length - 1 - k) 0 else o.getD k 0) (fun s => o.length - s.1) (0, o) ?_ rfl
    ⟨hH, Nat.zero_le _, rfl, fun k hk => by simp only; rw [if_neg (by omega)]⟩ ?_
  · refine .cons rfl (.cons ?_ (.cons rfl .nil))
    show some (Value.int .i64 ((o.length : Int) - 1)) = some (.int .i64 ((o.length : Int) - 1 - ((0 : Nat) : Int)))
    simp
  clear hH
  rintro ⟨k, ys⟩ H1 ⟨hH1, hk, hyl, hys⟩
  simp only at hH1 hk hyl hys
  dsimp only [List.cons_append, List.nil_append]
  repeat' (first | refine zA ?_ | (refine zM ?_; intro _ _) | refine zX ?_ | (refine zC ?_; intro _ _ _ _) | (refine zS ?_; intro _ _) | (apply Ws <;> intro hg))
  refine WC.condP rfl (fun hlt => ?_) (fun hlt => ?_)
  · have hk' : k < o.length := by omega
    obtain ⟨j, hj⟩ : ∃ j : Nat, (o.length : Int) - 1 - k = j := ⟨o.length - 1 - k, by omega⟩
    rw [hj]
    repeat' (first | refine zA ?_ | (refine zM ?_; intro _ _) | refine zX ?_ | (refine zC ?_; intro _ _ _ _) | (refine zS ?_; intro _ _) | (apply Ws <;> intro hg))
    rename_i H2 hH2
    have hl2 : (ys.set k (ys.getD j 0)).length = o.length := by simp [hyl]
    repeat' (first | refine zA ?_ | (refine zM ?_; intro _ _) | refine zX ?_ | (refine zC ?_; intro _ _ _ _) | (refine zS ?_; intro _ _) | (apply Ws <;> intro hg))
    rename_i H3 hH3
    rw [show (j : Int) - 1 = (o.length : Int) - 1 - ((k + 1 : Nat) : Int) by omega]
    refine Ends.loop (k + 1, (ys.set k (ys.getD j 0)).set j (ys.getD k 0)) (by simp only; omega) (by repeat' (first | exact .nil | refine .cons rfl ?_)) rfl ⟨hH3, by simp only; omega, by simp [hyl], fun i hi => ?_⟩
    simp only
    rw [getD_set' (by omega), getD_set' (by omega)]
    have hjk := hys j (by omega)
    have hkk := hys k (by omega)
    rw [if_neg (by omega)] at hjk hkk
    by_cases h1 : i = j
    · rw [if_pos h1, if_pos (by omega), hkk]; congr 1; omega
    · rw [if_neg h1]
      by_cases h2 : i = k
      · rw [if_pos h2, if_pos (by omega), hjk]; congr 1; omega
      · rw [if_neg h2, hys i hi]
        by_cases h3 : i < k ∨ o.length - k ≤ i
        · rw [if_pos h3, if_pos (by omega)]
        · rw [if_neg h3, if_neg (by omega)]
  · have hre : ys = o.reverse := by
      refine ext_getD (a := 0) (by simp [hyl]) fun i hi => ?_
      rw [hys i (by omega), getD_eq (show i < o.reverse.length by simp; omega), List.getElem_reverse]
      by_cases h3 : i < k ∨ o.length - k ≤ i
      · rw [if_pos h3, getD_eq (by omega)]
      · rw [if_neg h3, getD_eq (by omega)]
        congr 1; omega
    subst hre
    repeat' (first | refine zA ?_ | (refine zM ?_; intro _ _) | refine zX ?_ | (refine zC ?_; intro _ _ _ _) | (refine zS ?_; intro _ _) | (apply Ws <;> intro hg))
    exact Ends.end0 hH1

/-- The law's gaps. -/
theorem lawgaps_fs {l : List Int} (hH : hasH M n0 H) (hS : Sl M 1 v (ints l)) (hl : l.length ≤ 1000) (hO : Sl M 1 w (ints o)) (hol : o.length ≤ 1000) :
    FS C 53 [v, w] H (fun e H' => e = .int .i64 ((RN (bitF l o) o.length - 1 : Nat) : Int) ∧ H' = H) := by
  refine FS.intro (pf := pf53) rfl rfl rfl ?_
  repeat' (first | refine zA ?_ | (refine zM ?_; intro _ _) | refine zX ?_ | (refine zC ?_; intro _ _ _ _) | (refine zS ?_; intro _ _) | (apply Ws <;> intro hg))
  refine WC.loopX [(0, _), (1, _), (10, _), (11, _)] (fun s : Nat × Int × Int × Nat => [(5, .int .i64 s.2.1), (6, .int .i64 s.2.2.1), (7, .int .i64 (s.2.2.2 : Int)), (12, .int .i64 (s.1 : Int))]) []
    (fun s H' => H' = H ∧ s.1 ≤ o.length ∧ ((s.2.1 = -1 ∧ s.2.2.1 = -1 ∧ s.2.2.2 = 0 ∧ ∀ i, i < s.1 → bitF l o i = false) ∨ ∃ a b : Nat, s.2.1 = (a : Int) ∧ s.2.2.1 = (b : Int) ∧ Ends2 (bitF l o) s.1 a b ∧ s.2.2.2 + 1 = RN (bitF l o) s.1)) (fun s => o.length - s.1) (0, -1, -1, 0) (by repeat' (first | exact .nil | refine .cons rfl ?_)) rfl
    ⟨rfl, Nat.zero_le _, .inl ⟨rfl, rfl, rfl, fun i hi => absurd hi (Nat.not_lt_zero _)⟩⟩ ?_
  rintro ⟨k, a, b, g⟩ _ ⟨rfl, hk, hab⟩
  simp only at hk hab
  dsimp only [List.cons_append, List.nil_append]
  repeat' (first | refine zA ?_ | (refine zM ?_; intro _ _) | refine zX ?_ | (refine zC ?_; intro _ _ _ _) | (refine zS ?_; intro _ _) | (apply Ws <;> intro hg))
  refine WC.condP rfl (fun hlt => ?_) (fun hlt => ?_)
  · have hk' : k < o.length := by omega
    repeat' (first | refine zA ?_ | (refine zM ?_; intro _ _) | refine zX ?_ | (refine zC ?_; intro _ _ _ _) | (refine zS ?_; intro _ _) | (apply Ws <;> intro hg))
    refine WR.call (by first | exact gN | exact gS rfl) rfl rfl (Contains_fs hH hS (by omega) _) ?_
    rintro _ _ ⟨rfl, rfl⟩
    by_cases hb : o.getD k 0 ∈ l
    · have hbt : bitF l o k = true := decide_eq_true hb
      rw [decide_eq_true hb]
      rcases hab with ⟨rfl, rfl, rfl, hno⟩ | ⟨a', b', rfl, rfl, h2, h3⟩
      · have hr : RN (bitF l o) (k + 1) = 1 := by
          rw [RN, (none_runs hno).1, if_pos]
          refine ⟨hbt, ?_⟩
          rcases Nat.eq_zero_or_pos k with h0 | h0
          · exact .inl h0
          · exact .inr (hno _ (by omega))
        repeat' (first | refine zA ?_ | (refine zM ?_; intro _ _) | refine zX ?_ | (refine zC ?_; intro _ _ _ _) | (refine zS ?_; intro _ _) | refine zO ?_ | (apply Ws <;> intro hg))
        exact Ends.loop (k + 1, (k : Int), (k : Int), 0) (by simp only; omega) (by repeat' (first | exact .nil | refine .cons rfl ?_)) rfl ⟨rfl, hk', .inr ⟨k, k, rfl, rfl, .first hbt hno, by simp only; omega⟩⟩
      · have hbk := h2.bk
        have hrk := RN_le (bitF l o) k
        by_cases h5 : b' = k - 1
        · have hp : bitF l o (k - 1) = true := by rw [← h5]; exact h2.pb
          have hr : RN (bitF l o) (k + 1) = RN (bitF l o) k := by
            rw [RN, if_neg]
            · rfl
            · rintro ⟨_, h6 | h6⟩
              · omega
              · rw [hp] at h6; cases h6
          repeat' (first | refine zA ?_ | (refine zM ?_; intro _ _) | refine zX ?_ | (refine zC ?_; intro _ _ _ _) | (refine zS ?_; intro _ _) | refine zO ?_ | (apply Ws <;> intro hg))
          exact Ends.loop (k + 1, (a' : Int), (k : Int), g) (by simp only; omega) (by repeat' (first | exact .nil | refine .cons rfl ?_)) rfl ⟨rfl, hk', .inr ⟨a', k, rfl, rfl, h2.next hbt, by simp only; omega⟩⟩
        · have hp : bitF l o (k - 1) = false := h2.hi _ (by omega) (by omega)
          have hr : RN (bitF l o) (k + 1) = RN (bitF l o) k + 1 := by rw [RN, if_pos ⟨hbt, .inr hp⟩]
          repeat' (first | refine zA ?_ | (refine zM ?_; intro _ _) | refine zX ?_ | (refine zC ?_; intro _ _ _ _) | (refine zS ?_; intro _ _) | refine zO ?_ | (apply Ws <;> intro hg))
          exact Ends.loop (k + 1, (a' : Int), (k : Int), g + 1) (by simp only; omega) (by repeat' (first | exact .nil | refine .cons rfl ?_)) rfl ⟨rfl, hk', .inr ⟨a', k, rfl, rfl, h2.next hbt, by simp only; omega⟩⟩
    · have hbt : bitF l o k = false := decide_eq_false hb
      have hr : RN (bitF l o) (k + 1) = RN (bitF l o) k := by rw [RN, hbt]; simp
      rw [decide_eq_false hb]
      repeat' (first | refine zA ?_ | (refine zM ?_; intro _ _) | refine zX ?_ | (refine zC ?_; intro _ _ _ _) | (refine zS ?_; intro _ _) | refine zO ?_ | (apply Ws <;> intro hg))
      refine Ends.loop (k + 1, a, b, g) (by simp only; omega) (by repeat' (first | exact .nil | refine .cons rfl ?_)) rfl ⟨rfl, hk', ?_⟩
      rcases hab with ⟨h1, h2, h3, h4⟩ | ⟨a', b', h1, h2, h3, h4⟩
      · refine .inl ⟨h1, h2, h3, fun i hi => ?_⟩
        rcases Nat.lt_or_ge i k with h5 | h5
        · exact h4 i h5
        · have : i = k := by simp only at hi; omega
          subst this; exact hbt
      · exact .inr ⟨a', b', h1, h2, h3.skip hbt, by simp only; omega⟩
  · have hkl : k = o.length := by omega
    subst hkl
    repeat' (first | refine zA ?_ | (refine zM ?_; intro _ _) | refine zX ?_ | (refine zC ?_; intro _ _ _ _) | (refine zS ?_; intro _ _) | (apply Ws <;> intro hg))
    refine Ends.ret1 rfl ⟨?_, rfl⟩
    rcases hab with ⟨h1, h2, h3, h4⟩ | ⟨a', b', h1, h2, h3, h4⟩
    · rw [(none_runs h4).1, h3]
    · rw [← h4]; simp
end
end Go.Proofs.Ytldhpaepfcpamaa.St

namespace Go.Proofs.Ytldhpaepfcpamaa.St
open Go Go.Abs Go.Mth
set_option linter.unusedVariables false
set_option linter.unusedSimpArgs false
attribute [local irreducible] gOK WS WC WR WD Ends FS YS OpV seqK blockK loopK midK retK rdK asgK rangeEnd sat Cell

abbrev bytesV (us : List Int) : List Value := us.map (Value.int .u8)
theorem bytes_get {us : List Int} {k : Nat} (h : k < us.length) : (bytesV us)[k]? = some (.int .u8 (us.getD k 0)) := by
  rw [List.getElem?_map, List.getElem?_eq_getElem h, getD_eq h]; rfl
theorem bytes_one (us : List Int) : (bytesV us).all one = true := by
  rw [List.all_eq_true]; intro q hq; obtain ⟨z, _, rfl⟩ := List.mem_map.1 hq; rfl
/-- The numbers below one. -/
def upTo (n : Nat) : List Int := (List.range n).map fun (x : Nat) => (x : Int)
theorem upTo_succ (n : Nat) : upTo (n + 1) = upTo n ++ [(n : Int)] := by simp [upTo, List.range_succ]
theorem upTo_len (n : Nat) : (upTo n).length = n := by simp [upTo]

/-- What is taken out of a list, and what is left of it: together they are the list. -/
theorem perm_take {ys : List Int} {m i : Nat} (hi : i < m) (hm : m ≤ ys.length) : (ys.take m).Perm (ys.getD i 0 :: (ys.take i ++ (ys.take m).drop (i + 1))) := by
  have h1 : ys.take m = ys.take i ++ (ys.getD i 0 :: (ys.take m).drop (i + 1)) := by
    have h2 : (ys.take m).drop i = ys.getD i 0 :: (ys.take m).drop (i + 1) := by
      rw [List.drop_eq_getElem_cons (by simp; omega), List.getElem_take, getD_eq (by omega)]
    rw [← h2]
    have h3 : ys.take i = (ys.take m).take i := by rw [List.take_take, Nat.min_eq_left (by omega)]
    rw [h3, List.take_append_drop]
  exact (List.Perm.of_eq h1).trans List.perm_middle

structure PV where
  k : Nat
  cp : Nat
  R : Nat
  ys : List Int
  v : Value
  Mx : HL
  n : Nat
  o : List Int

structure OV where
  k : Nat
  v : Value
  Mx : HL
  n : Nat

section
variable {M : HL} {n0 : Nat} {H : Heap}

theorem order_fs (hH : hasH M n0 H) {n : Nat} {us : List Int} (hn : 1 ≤ n ∧ n ≤ 7) (hl : us.length = 7) (hu : ∀ x ∈ us, 0 ≤ x ∧ x ≤ 255) :
    FS C 49 [.int .i64 (n : Int), .agg (bytesV us).toArray] H (fun e H' => ∃ Mx n' o, n0 ≤ n' ∧ Own 3 1 e (ints o) Mx ∧ hasH (Mx ++ M) n' H' ∧ o.length = n ∧ o.Perm (upTo n)) := by
  have hone := bytes_one us
  refine FS.intro (pf := pf49) rfl rfl rfl ?_
  repeat' (first | refine zA ?_ | (refine zM ?_; intro _ _) | refine zX ?_ | (refine zC ?_; intro _ _ _ _) | (refine zS ?_; intro _ _))
  rename_i H1 hH1
  -- all of them
  refine WC.loopX [(0, _), (3, _), (6, _), (10, _)] (fun s : OV => [(5, s.v), (11, .int .i64 (s.k : Int))]) []
    (fun s H' => s.k ≤ n ∧ n0 + 1 ≤ s.n ∧ hasH (s.Mx ++ ((n0, .row 74 0 0 (bytesV us)) :: M)) s.n H' ∧ ((s.k = 0 ∧ s.v = .slice none 0 0 ∧ s.Mx = []) ∨ OwnR 3 1 s.v (ints (upTo s.k)) s.Mx)) (fun s => n - s.k) ⟨0, .slice none 0 0, [], n0 + 1⟩ (by repeat' (first | exact .nil | refine .cons rfl ?_)) rfl ⟨Nat.zero_le _, Nat.le_refl _, hH1, .inl ⟨rfl, rfl, rfl⟩⟩ ?_
  clear hH1
  rintro ⟨k, v, Mx, n1⟩ H2 ⟨hk, hn1, hH2, hO⟩
  simp only at hk hn1 hH2 hO
  have hOwn : Own 3 1 v (ints (upTo k)) Mx := by
    rcases hO with ⟨rfl, rfl, rfl⟩ | h
    · exact .nil
    · exact h.own
  dsimp only [List.cons_append, List.nil_append]
  repeat' (first | refine zA ?_ | (refine zM ?_; intro _ _) | refine zX ?_ | (refine zC ?_; intro _ _ _ _) | (refine zS ?_; intro _ _) | (apply Ws <;> intro hg))
  refine WC.condP rfl (fun hlt => ?_) (fun hlt => ?_)
  · have hk' : k < n := by omega
    repeat' (first | refine zA ?_ | (refine zM ?_; intro _ _) | refine zX ?_ | (refine zC ?_; intro _ _ _ _) | (refine zS ?_; intro _ _) | (apply Ws <;> intro hg))
    refine WR.append1R rfl rfl rfl rfl hOwn hH2 (new := [.int .i64 (k : Int)]) (by rfl) rfl rfl (Nat.le_refl _) (by omega) (by simp [upTo]; omega) fun v3 M3 n3 H3 hO3 hH3 hn3 => ?_
    repeat' (first | refine zA ?_ | (refine zM ?_; intro _ _) | refine zX ?_ | (refine zC ?_; intro _ _ _ _) | (refine zS ?_; intro _ _) | (apply Ws <;> intro hg))
    refine Ends.loop ⟨k + 1, v3, M3, n3⟩ (by simp only; omega) (by repeat' (first | exact .nil | refine .cons rfl ?_)) rfl ⟨hk', by simp only; omega, hH3, .inr ?_⟩
    rw [upTo_succ]
    simpa using hO3
  have hkn : k = n := by omega
  subst hkn
  have hOR : OwnR 3 1 v (ints (upTo k)) Mx := by
    rcases hO with ⟨h, _⟩ | h
    · omega
    · exact h
  clear hO hOwn hlt hk
  cases hOR with
  | mk hlen =>
  rename_i bl ul ol len
  have hle : len = k := by have := hlen; simp [upTo] at this; omega
  subst hle
  repeat' (first | refine zA ?_ | (refine zM ?_; intro _ _) | refine zX ?_ | (refine zC ?_; intro _ _ _ _) | (refine zS ?_; intro _ _) | (apply Ws <;> intro hg))
  refine WC.loopX [(3, _), (19, _)] (fun s : PV => [(5, .slice (some ⟨bl, ol, some ul⟩) (len - s.k) s.cp), (6, s.v), (20, .int .i64 (s.k : Int))]) []
    (fun s H' => s.k ≤ len ∧ n0 + 1 ≤ s.n ∧ capR s.cp (len - s.k) s.R ∧ s.ys.length = len ∧ s.o.length = s.k ∧ Own 3 1 s.v (ints s.o) s.Mx ∧ hasH ((bl, .row 3 ul ol (ints s.ys)) :: (s.Mx ++ ((n0, .row 74 0 0 (bytesV us)) :: M))) s.n H' ∧ (s.o ++ s.ys.take (len - s.k)).Perm (upTo len))
    (fun s => len - s.k) ⟨0, 2 * 1, len, upTo len, .slice none 0 0, [], n1, []⟩ (by repeat' (first | exact .nil | refine .cons rfl ?_)) rfl ⟨Nat.zero_le _, hn1, .inl ⟨rfl, rfl⟩, by simp [upTo], rfl, .nil, hH2, by simp [upTo_len, List.take_of_length_le]⟩ ?_
  clear hH2 hlen
  rintro ⟨k, cp, R, ys, v6, Mo, n2, o⟩ H3 ⟨hk, hn2, hcR, hyl, hol, hOo, hH3, hperm⟩
  simp only at hk hn2 hcR hyl hol hOo hH3 hperm
  dsimp only [List.cons_append, List.nil_append]
  repeat' (first | refine zA ?_ | (refine zM ?_; intro _ _) | refine zX ?_ | (refine zC ?_; intro _ _ _ _) | (refine zS ?_; intro _ _) | (apply Ws <;> intro hg))
  refine WC.condP rfl (fun hlt => ?_) (fun hlt => ?_)
  · have hk' : k < len := by omega
    have huk := hu _ (getD_mem (a := 0) (l := us) (k := k) (by omega))
    have hm3 : (n0, Ch.row 74 0 0 (bytesV us)) ∈ (bl, Ch.row 3 ul ol (ints ys)) :: (Mo ++ ((n0, .row 74 0 0 (bytesV us)) :: M)) := by simp
    repeat' (first | refine zA ?_ | (refine zM ?_; intro _ _) | refine zX ?_ | (refine zC ?_; intro _ _ _ _) | (refine zS ?_; intro _ _) | (apply Ws <;> intro hg))
    refine WR.op (by first | exact gN | exact gS rfl) rfl (OpV.load1 (v := .int .u8 (us.getD k 0)) rfl hH3 hm3 (.row _ _ _ _) (Nat.zero_le _) (by rw [Nat.sub_zero]; exact bytes_get (by omega))) ?_
    refine WR.op (by first | exact gN | exact gS rfl) rfl (OpV.conv u8k i64k rfl (c := us.getD k 0) (IntWalk.i64_in _ (by omega))) ?_
    obtain ⟨i, hi⟩ : ∃ i : Nat, us.getD k 0 % ((len - k : Nat) : Int) = i := ⟨(us.getD k 0 % ((len - k : Nat) : Int)).toNat, by have := Int.emod_nonneg (us.getD k 0) (show ((len - k : Nat) : Int) ≠ 0 by omega); omega⟩
    have hil : i < len - k := by have := Int.emod_lt_of_pos (us.getD k 0) (show (0 : Int) < ((len - k : Nat) : Int) by omega); omega
    repeat' (first | refine zA ?_ | (refine zM ?_; intro _ _) | refine zX ?_ | (refine zC ?_; intro _ _ _ _) | (refine zS ?_; intro _ _) | (apply Ws <;> intro hg))
    rw [hi]
    repeat' (first | refine zA ?_ | (refine zM ?_; intro _ _) | refine zX ?_ | (refine zC ?_; intro _ _ _ _) | (refine zS ?_; intro _ _) | (apply Ws <;> intro hg))
    refine WR.op (by first | exact gN | exact gS rfl) rfl (OpV.load1 (v := .int .i64 (ys.getD i 0)) rfl hH3 (.head _) (.row _ _ _ _) (Nat.le_add_right _ _) (by rw [show ol + i - ol = i by omega]; exact ints_get (by omega))) ?_
    refine WR.append1F [(bl, .row 3 ul ol (ints ys))] Mo _ rfl rfl rfl rfl hOo hH3 (new := [.int .i64 (ys.getD i 0)]) (by rfl) rfl rfl (Nat.le_refl _) (by omega) (by simp; omega) fun v7 M7 n7 H7 hO7 hH7 hn7 => ?_
    repeat' (first | refine zA ?_ | (refine zM ?_; intro _ _) | refine zX ?_ | (refine zC ?_; intro _ _ _ _) | (refine zS ?_; intro _ _) | (apply Ws <;> intro hg))
    refine WR.call (by first | exact gN | exact gS rfl) rfl rfl (Delete_fs (i := i) (j := i + 1) hH7 hcR (by omega) (by omega) (by omega) (by omega)) ?_
    rintro _ H8 ⟨zs, rfl, hH8, hzl, hzt⟩
    rw [show i + 1 - i = 1 by omega] at hzt ⊢
    repeat' (first | refine zA ?_ | (refine zM ?_; intro _ _) | refine zX ?_ | (refine zC ?_; intro _ _ _ _) | (refine zS ?_; intro _ _) | (apply Ws <;> intro hg))
    have hR1 := hcR.le
    have hO8 : Own 3 1 v7 (ints (o ++ [ys.getD i 0])) M7 := by simpa using hO7
    rw [show len - k - 1 = len - (k + 1) by omega] at hzt ⊢
    refine Ends.loop ⟨k + 1, roomCode 1 R, R, zs, v7, M7, n7, o ++ [ys.getD i 0]⟩ (by simp only; omega) (by repeat' (first | exact .nil | refine .cons rfl ?_)) rfl ⟨hk', by simp only; omega, .inr ⟨rfl, by simp only; omega⟩, by simp only; omega, by simp [hol], hO8, hH8, ?_⟩
    simp only
    rw [hzt, List.append_assoc]
    refine List.Perm.trans ?_ hperm
    exact List.Perm.append_left _ (perm_take hil (by omega)).symm
  have hkn : k = len := by omega
  subst hkn
  repeat' (first | refine zA ?_ | (refine zM ?_; intro _ _) | refine zX ?_ | (refine zC ?_; intro _ _ _ _) | (refine zS ?_; intro _ _) | (apply Ws <;> intro hg))
  refine Ends.ret1 rfl ⟨Mo, n2, o, by omega, hOo, ?_, hol, by simpa using hperm⟩
  exact hH3.sub (.cons _ (.append (.refl _) (List.sublist_cons_self _ _)))
end
end Go.Proofs.Ytldhpaepfcpamaa.St

namespace Go.Proofs.Ytldhpaepfcpamaa.St
open Go Go.Abs Go.Mth
set_option linter.unusedVariables false
set_option linter.unusedSimpArgs false
attribute [local irreducible] gOK WS WC WR WD Ends FS YS OpV seqK blockK loopK midK retK rdK asgK rangeEnd sat Cell

def trays (a b : Int) (hs : List Int) : List Value := .int .u8 a :: .int .u8 b :: bytesV hs
theorem trays_one (a b : Int) (hs : List Int) : (trays a b hs).all one = true := by
  have := bytes_one hs
  simp only [trays, List.all_cons, this, Bool.and_true]; rfl
def bitsOf (n x : Nat) : List Int := ((List.range n).filter fun i => x.testBit i).map fun (i : Nat) => (i : Int)
def formB (n x : Nat) : List Int := if bitsOf n x = [] then [0] else bitsOf n x
theorem bitsOf_succ (n x : Nat) : bitsOf (n + 1) x = bitsOf n x ++ if x.testBit n = true then [(n : Int)] else [] := by
  unfold bitsOf
  rw [List.range_succ, List.filter_append, List.map_append]
  congr 1
  cases h : x.testBit n <;> simp [h]
theorem bitsOf_len (n x : Nat) : (bitsOf n x).length ≤ n := by
  unfold bitsOf
  rw [List.length_map]
  exact Nat.le_trans (List.length_filter_le _ _) (by simp)
def traysF (n m : Nat) (hs : List Int) : List (List Int) := (hs.take m).map fun x => formB n x.toNat

structure TV where
  k : Nat
  v : Value
  vs : List Value
  Mo : HL
  Mi : HL
  n : Nat

section
variable {M : HL} {n0 : Nat} {H : Heap}

theorem list_fs (v : Value) (H : Heap) : FS C 43 [v] H (fun e H' => e = v ∧ H' = H) := by
  refine FS.intro (pf := pf43) rfl rfl rfl ?_
  repeat' (first | refine zA ?_ | (refine zM ?_; intro _ _) | refine zX ?_ | (refine zC ?_; intro _ _ _ _) | (refine zS ?_; intro _ _) | (apply Ws <;> intro hg))
  exact Ends.ret1 rfl ⟨rfl, rfl⟩

set_option maxHeartbeats 1000000 in
theorem made_fs (hH : hasH M n0 H) {a b : Int} {hs : List Int} (ha : 0 ≤ a ∧ a ≤ 255) (hb : 0 ≤ b ∧ b ≤ 255) (hl : hs.length = 10) (hu : ∀ x ∈ hs, 0 ≤ x ∧ x ≤ 255) {ly fm : Nat} (hly : 1 ≤ ly ∧ ly ≤ 7) (hfm : fm ≤ 10) :
    FS C 38 [.agg (trays a b hs).toArray, .int .i64 (ly : Int), .int .i64 (fm : Int)] H (fun e H' => ∃ v Mx n', e = .agg #[.int .i64 ((1 + a.toNat % ly : Nat) : Int), v] ∧ n0 ≤ n' ∧ RowsI (Mx ++ M) v (traysF (1 + a.toNat % ly) (b.toNat % (fm + 1)) hs) ∧ hasH (Mx ++ M) n' H') := by
  have hone := trays_one a b hs
  refine FS.intro (pf := pf38) rfl rfl rfl ?_
  repeat' (first | refine zA ?_ | (refine zM ?_; intro _ _) | refine zX ?_ | (refine zC ?_; intro _ _ _ _) | (refine zS ?_; intro _ _))
  rename_i H1 hH1
  refine WR.op (by first | exact gN | exact gS rfl) rfl (OpV.conv u8k i64k rfl (c := a) (IntWalk.i64_in _ (by omega))) ?_
  obtain ⟨an, rfl⟩ : ∃ an : Nat, a = an := ⟨a.toNat, by omega⟩
  obtain ⟨bn, rfl⟩ : ∃ bn : Nat, b = bn := ⟨b.toNat, by omega⟩
  rw [Int.toNat_natCast, Int.toNat_natCast]
  have hmod := Nat.mod_lt an (show 0 < ly by omega)
  have hmodb := Nat.mod_lt bn (show 0 < fm + 1 by omega)
  repeat' (first | refine zA ?_ | (refine zM ?_; intro _ _) | refine zX ?_ | (refine zC ?_; intro _ _ _ _) | (refine zS ?_; intro _ _) | (apply Ws <;> intro hg))
  rw [show (an : Int) % (ly : Int) = ((an % ly : Nat) : Int) by simp]
  obtain ⟨r, hr⟩ : ∃ r, an % ly = r := ⟨_, rfl⟩
  rw [hr] at hmod ⊢
  repeat' (first | refine zA ?_ | (refine zM ?_; intro _ _) | refine zX ?_ | (refine zC ?_; intro _ _ _ _) | (refine zS ?_; intro _ _) | (apply Ws <;> intro hg))
  rw [show (1 : Int) + (r : Int) = ((1 + r : Nat) : Int) by omega]
  obtain ⟨nl, hnl⟩ : ∃ nl, 1 + r = nl := ⟨_, rfl⟩
  have hnl7 : 1 ≤ nl ∧ nl ≤ 7 := by omega
  rw [hnl]
  refine WR.op (by first | exact gN | exact gS rfl) rfl (OpV.bldT (vs := [(0, .int .i64 (nl : Int))]) rfl (cs := #[.int .i64 (nl : Int), .slice none 0 0]) (by rfl)) ?_
  repeat' (first | refine zA ?_ | (refine zM ?_; intro _ _) | refine zX ?_ | (refine zC ?_; intro _ _ _ _) | (refine zS ?_; intro _ _) | (apply Ws <;> intro hg))
  rename_i H2 hH2
  refine WR.storeAll (by first | exact gN | exact gS rfl) hH2 rfl rfl (ls := [.int .i64 (nl : Int), .slice none 0 0]) rfl rfl .here rfl rfl fun H3 hH3 => ?_
  clear hH2 hH1
  repeat' (first | refine zA ?_ | (refine zM ?_; intro _ _) | refine zX ?_ | (refine zC ?_; intro _ _ _ _) | (refine zS ?_; intro _ _) | (apply Ws <;> intro hg))
  refine WR.op (by first | exact gN | exact gS rfl) rfl (OpV.conv u8k i64k rfl (c := (bn : Int)) (IntWalk.i64_in _ (by omega))) ?_
  repeat' (first | refine zA ?_ | (refine zM ?_; intro _ _) | refine zX ?_ | (refine zC ?_; intro _ _ _ _) | (refine zS ?_; intro _ _) | (apply Ws <;> intro hg))
  rw [show (bn : Int) % ((fm : Int) + 1) = ((bn % (fm + 1) : Nat) : Int) by simp]
  obtain ⟨m, hm⟩ : ∃ m, bn % (fm + 1) = m := ⟨_, rfl⟩
  rw [hm] at hmodb ⊢
  refine WR.op (by first | exact gN | exact gS rfl) rfl (OpV.slAh rfl rfl (by omega) (by decide)) ?_
  repeat' (first | refine zA ?_ | (refine zM ?_; intro _ _) | refine zX ?_ | (refine zC ?_; intro _ _ _ _) | (refine zS ?_; intro _ _) | (apply Ws <;> intro hg))
  refine WC.loopX [(3, _), (6, _), (7, _), (26, _), (27, _)] (fun s : TV => [(28, .int .i64 (s.k : Int))]) []
    (fun s H' => s.k ≤ m ∧ n0 + 3 ≤ s.n ∧ s.vs.length = s.k ∧ Own 25 1 s.v s.vs s.Mo ∧ hasH ((n0 + 1 + 1, .row 24 0 0 [.int .i64 (nl : Int), s.v]) :: (n0 + 1, .row 24 0 0 [.int .i64 0, .slice none 0 0]) :: (n0, .row 60 0 0 (trays an bn hs)) :: (s.Mo ++ (s.Mi ++ M))) s.n H' ∧
      ∀ i, i < s.k → Sl (s.Mi ++ M) 1 (s.vs.getD i undef) (ints (formB nl (hs.getD i 0).toNat))) (fun s => m - s.k) ⟨0, .slice none 0 0, [], [], [], n0 + 1 + 1 + 1⟩ (by repeat' (first | exact .nil | refine .cons rfl ?_)) rfl ⟨Nat.zero_le _, by simp only; omega, rfl, .nil, hH3, fun i hi => absurd hi (Nat.not_lt_zero _)⟩ ?_
  clear hH3
  rintro ⟨k, vf, vs, Mo, Mi, n1⟩ H4 ⟨hk, hn1, hvl, hOo, hH4, hvs⟩
  simp only at hk hn1 hvl hOo hH4 hvs
  dsimp only [List.cons_append, List.nil_append]
  repeat' (first | refine zA ?_ | (refine zM ?_; intro _ _) | refine zX ?_ | (refine zC ?_; intro _ _ _ _) | (refine zS ?_; intro _ _) | (apply Ws <;> intro hg))
  refine WC.condP rfl (fun hlt => ?_) (fun hlt => ?_)
  · have hk' : k < m := by omega
    have hkl : k < hs.length := by omega
    have hx0 := hu _ (getD_mem (a := 0) hkl)
    obtain ⟨x, hx⟩ : ∃ x : Nat, hs.getD k 0 = x := ⟨(hs.getD k 0).toNat, by omega⟩
    repeat' (first | refine zA ?_ | (refine zM ?_; intro _ _) | refine zX ?_ | (refine zC ?_; intro _ _ _ _) | (refine zS ?_; intro _ _) | (apply Ws <;> intro hg))
    refine WR.op (by first | exact gN | exact gS rfl) rfl (OpV.load1 (v := .int .u8 (hs.getD k 0)) rfl hH4 (.tail _ (.tail _ (.head _))) (.row _ _ _ _) (Nat.zero_le _) (by rw [show 2 + k - 0 = k + 1 + 1 by omega]; simp only [trays, List.getElem?_cons_succ]; exact bytes_get hkl)) ?_
    rw [hx]
    repeat' (first | refine zA ?_ | (refine zM ?_; intro _ _) | refine zX ?_ | (refine zC ?_; intro _ _ _ _) | (refine zS ?_; intro _ _) | (apply Ws <;> intro hg))
    refine WC.loopX [(3, _), (6, _), (7, _), (9, _), (26, _), (27, _), (28, _), (33, _)] (fun s : OV => [(10, s.v), (34, .int .i64 (s.k : Int))]) []
      (fun s H' => s.k ≤ nl ∧ n0 + 3 ≤ s.n ∧ hasH ((n0 + 1 + 1, .row 24 0 0 [.int .i64 (nl : Int), vf]) :: (n0 + 1, .row 24 0 0 [.int .i64 0, .slice none 0 0]) :: (n0, .row 60 0 0 (trays an bn hs)) :: (s.Mx ++ (Mo ++ (Mi ++ M)))) s.n H' ∧ ((bitsOf s.k x = [] ∧ s.v = .slice none 0 0 ∧ s.Mx = []) ∨ (bitsOf s.k x ≠ [] ∧ OwnR 3 1 s.v (ints (bitsOf s.k x)) s.Mx))) (fun s => nl - s.k) ⟨0, .slice none 0 0, [], n1⟩ (by repeat' (first | exact .nil | refine .cons rfl ?_)) rfl ⟨Nat.zero_le _, hn1, hH4, .inl ⟨rfl, rfl, rfl⟩⟩ ?_
    clear hH4 hn1
    rintro ⟨i, v, Mx, n2⟩ H5 ⟨hi, hn2, hH5, hO⟩
    simp only at hi hn2 hH5 hO
    have hOwn : Own 3 1 v (ints (bitsOf i x)) Mx := by
      rcases hO with ⟨h1, rfl, rfl⟩ | ⟨_, h⟩
      · rw [h1]; exact .nil
      · exact h.own
    dsimp only [List.cons_append, List.nil_append]
    repeat' (first | refine zA ?_ | (refine zM ?_; intro _ _) | refine zX ?_ | (refine zC ?_; intro _ _ _ _) | (refine zS ?_; intro _ _) | (apply Ws <;> intro hg))
    refine WC.condP rfl (fun hlt2 => ?_) (fun hlt2 => ?_)
    · have hi' : i < nl := by omega
      have hsh : x >>> i < 256 := Nat.lt_of_le_of_lt (Nat.shiftRight_le x i) (by omega)
      repeat' (first | refine zA ?_ | (refine zM ?_; intro _ _) | refine zX ?_ | (refine zC ?_; intro _ _ _ _) | (refine zS ?_; intro _ _) | (apply Ws <;> intro hg))
      refine WR.op (by first | exact gN | exact gS rfl) rfl (OpV.shrN rfl rfl (by show i ≤ 8; omega)) ?_
      refine WR.op (by first | exact gN | exact gS rfl) rfl (OpV.andN (b := 1) rfl rfl hsh (by decide)) ?_
      repeat' (first | refine zA ?_ | (refine zM ?_; intro _ _) | refine zX ?_ | (refine zC ?_; intro _ _ _ _) | (refine zS ?_; intro _ _) | (apply Ws <;> intro hg))
      refine WC.condP rfl (fun hbit => ?_) (fun hbit => ?_)
      · have hb : x.testBit i = true := shr_and_one.1 hbit
        repeat' (first | refine zA ?_ | (refine zM ?_; intro _ _) | refine zX ?_ | (refine zC ?_; intro _ _ _ _) | (refine zS ?_; intro _ _) | (apply Ws <;> intro hg))
        refine WR.append1RF [(n0 + 1 + 1, .row 24 0 0 [.int .i64 (nl : Int), vf]), (n0 + 1, .row 24 0 0 [.int .i64 0, .slice none 0 0]), (n0, .row 60 0 0 (trays an bn hs))] Mx _ rfl rfl rfl rfl hOwn hH5 (new := [.int .i64 (i : Int)]) (by rfl) rfl rfl (Nat.le_refl _) (by omega) (by have := bitsOf_len i x; simp; omega) fun v3 M3 n3 H6 hO3 hH6 hn3 => ?_
        repeat' (first | refine zA ?_ | (refine zM ?_; intro _ _) | refine zX ?_ | (refine zC ?_; intro _ _ _ _) | (refine zS ?_; intro _ _) | (apply Ws <;> intro hg))
        refine Ends.loop ⟨i + 1, v3, M3, n3⟩ (by simp only; omega) (by repeat' (first | exact .nil | refine .cons rfl ?_)) rfl ⟨hi', by simp only; omega, hH6, .inr ⟨?_, ?_⟩⟩
        · simp only; rw [bitsOf_succ, if_pos hb]; simp
        · simp only; rw [bitsOf_succ, if_pos hb]; simpa using hO3
      · have hb : ¬ x.testBit i = true := fun h => hbit (shr_and_one.2 h)
        repeat' (first | refine zA ?_ | (refine zM ?_; intro _ _) | refine zX ?_ | (refine zC ?_; intro _ _ _ _) | (refine zS ?_; intro _ _) | (apply Ws <;> intro hg))
        refine Ends.loop ⟨i + 1, v, Mx, n2⟩ (by simp only; omega) (by repeat' (first | exact .nil | refine .cons rfl ?_)) rfl ⟨hi', hn2, hH5, ?_⟩
        simp only
        rw [bitsOf_succ, if_neg hb, List.append_nil]
        exact hO
    have hin : nl = i := by omega
    subst hin
    clear hlt2 hi hOwn
    obtain ⟨a0, k0, c0, rfl, ha0⟩ : ∃ a0 k0 c0, v = .slice a0 k0 c0 ∧ (a0.isNone != false) = decide (bitsOf nl x = []) := by
      rcases hO with ⟨h1, rfl, _⟩ | ⟨h1, h2⟩
      · exact ⟨none, 0, 0, rfl, by rw [decide_eq_true h1]; rfl⟩
      · cases h2 with
        | mk h3 => exact ⟨_, _, _, rfl, by rw [decide_eq_false h1]; rfl⟩
    repeat' (first | refine zA ?_ | (refine zM ?_; intro _ _) | refine zX ?_ | (refine zC ?_; intro _ _ _ _) | (refine zS ?_; intro _ _) | (apply Ws <;> intro hg))
    rw [ha0]
    refine WC.joinX [(3, _), (6, _), (7, _), (26, _), (27, _), (28, _)] (by repeat' (first | exact .nil | refine .cons rfl ?_)) (fun s : OV => [(10, s.v)])
      (fun s H' => n0 + 3 ≤ s.n ∧ Sl (s.Mx ++ M) 1 s.v (ints (formB nl x)) ∧ hasH ((n0 + 1 + 1, .row 24 0 0 [.int .i64 (nl : Int), vf]) :: (n0 + 1, .row 24 0 0 [.int .i64 0, .slice none 0 0]) :: (n0, .row 60 0 0 (trays an bn hs)) :: (s.Mx ++ (Mo ++ (Mi ++ M)))) s.n H') ?_ ?_
    · refine WC.condP rfl (fun he => ?_) (fun he => ?_)
      · rcases hO with ⟨_, hv0, rfl⟩ | ⟨h1, _⟩
        · repeat' (first | refine zA ?_ | (refine zM ?_; intro _ _) | refine zX ?_ | (refine zC ?_; intro _ _ _ _) | (refine zS ?_; intro _ _) | (apply Ws <;> intro hg))
          refine WR.bldS (by first | exact gN | exact gS rfl) rfl hH5 (vs := [(0, .int .i64 0)]) rfl (cs := [.int .i64 0]) (by rfl) rfl fun H6 hH6 => ?_
          refine WR.call (by first | exact gN | exact gS rfl) rfl rfl (list_fs _ _) ?_
          rintro _ _ ⟨rfl, rfl⟩
          repeat' (first | refine zA ?_ | (refine zM ?_; intro _ _) | refine zX ?_ | (refine zC ?_; intro _ _ _ _) | (refine zS ?_; intro _ _) | (apply Ws <;> intro hg))
          refine Ends.midX ⟨0, _, [(n2, .row 3 0 0 [.int .i64 0])], n2 + 1⟩ (by repeat' (first | exact .nil | refine .cons rfl ?_)) ⟨by simp only; omega, ?_, ?_⟩
          · rw [formB, if_pos he]
            exact .row (lo := 0) (cs := ints [0]) (.head _) (.row _ _ _ _) (Nat.zero_le _) rfl rfl (by simp) (.inr ⟨1, rfl, by omega⟩)
          · exact hH6.perm (List.perm_middle (l₁ := [(n0 + 1 + 1, Ch.row 24 0 0 [.int .i64 (nl : Int), vf]), (n0 + 1, Ch.row 24 0 0 [.int .i64 0, .slice none 0 0]), (n0, Ch.row 60 0 0 (trays an bn hs))])).symm
        · exact absurd he h1
      · rcases hO with ⟨h1, _⟩ | ⟨_, h2⟩
        · exact absurd h1 he
        · repeat' (first | refine zA ?_ | (refine zM ?_; intro _ _) | refine zX ?_ | (refine zC ?_; intro _ _ _ _) | (refine zS ?_; intro _ _) | (apply Ws <;> intro hg))
          refine Ends.midX ⟨0, _, Mx, n2⟩ (by repeat' (first | exact .nil | refine .cons rfl ?_)) ⟨hn2, ?_, hH5⟩
          rw [formB, if_neg he]
          exact h2.own.sl M
    clear hO hH5 ha0 hn2
    rintro ⟨_, v9, M9, n9⟩ H9 ⟨hn9, hS9, hH9⟩
    simp only at hn9 hS9 hH9
    obtain ⟨a9, c9, rfl⟩ := hS9.len
    have hone9 := hS9.one_
    have hH10 : hasH ([(n0 + 1 + 1, .row 24 0 0 [.int .i64 (nl : Int), vf]), (n0 + 1, .row 24 0 0 [.int .i64 0, .slice none 0 0]), (n0, .row 60 0 0 (trays an bn hs))] ++ (Mo ++ ((M9 ++ Mi) ++ M))) n9 H9 := by
      refine hH9.perm (List.Perm.append_left [(n0 + 1 + 1, Ch.row 24 0 0 [.int .i64 (nl : Int), vf]), (n0 + 1, Ch.row 24 0 0 [.int .i64 0, .slice none 0 0]), (n0, Ch.row 60 0 0 (trays an bn hs))] ?_)
      rw [List.append_assoc]
      exact List.perm_append_comm_assoc M9 Mo (Mi ++ M)
    dsimp only [List.cons_append, List.nil_append]
    repeat' (first | refine zA ?_ | (refine zM ?_; intro _ _) | refine zX ?_ | (refine zC ?_; intro _ _ _ _) | (refine zS ?_; intro _ _) | (apply Ws <;> intro hg))
    refine WR.append1F [(n0 + 1 + 1, .row 24 0 0 [.int .i64 (nl : Int), vf]), (n0 + 1, .row 24 0 0 [.int .i64 0, .slice none 0 0]), (n0, .row 60 0 0 (trays an bn hs))] Mo _ rfl rfl rfl rfl hOo hH10 (new := [_]) (by rfl) rfl rfl (Nat.le_refl _) (by omega) (by simp [hvl]; omega) fun v10 M10 n10 H10 hO10 hH11 hn10 => ?_
    have hone10 := (hO10.sl M).one_
    repeat' (first | refine zA ?_ | (refine zM ?_; intro _ _) | refine zX ?_ | (refine zC ?_; intro _ _ _ _) | (refine zS ?_; intro _ _) | (apply Ws <;> intro hg))
    refine WR.store1 (by first | exact gN | exact gS rfl) hH11 rfl rfl hone10 (cs' := [.int .i64 (nl : Int), v10]) .here (Nat.zero_le _) (by simp) rfl fun H12 hH12 => ?_
    repeat' (first | refine zA ?_ | (refine zM ?_; intro _ _) | refine zX ?_ | (refine zC ?_; intro _ _ _ _) | (refine zS ?_; intro _ _) | (apply Ws <;> intro hg))
    refine Ends.loop ⟨k + 1, v10, vs ++ [_], M10, M9 ++ Mi, n10⟩ (by simp only; omega) (by repeat' (first | exact .nil | refine .cons rfl ?_)) rfl ⟨hk', by simp only; omega, by simp [hvl], hO10, hH12, fun j hj => ?_⟩
    simp only at hj ⊢
    rcases Nat.lt_or_ge j k with h5 | h5
    · rw [getD_app_l (by omega), List.append_assoc]
      exact (hvs j h5).mono fun q hq => List.mem_append_right _ hq
    · have : j = k := by omega
      subst this
      rw [← hvl, getD_snoc, hvl, hx, Int.toNat_natCast]
      exact hS9.mono fun q hq => by
        rcases List.mem_append.1 hq with h | h
        · simp [h]
        · simp [h]
  have hkm : m = k := by omega
  subst hkm
  repeat' (first | refine zA ?_ | (refine zM ?_; intro _ _) | refine zX ?_ | (refine zC ?_; intro _ _ _ _) | (refine zS ?_; intro _ _) | (apply Ws <;> intro hg))
  have hone1 := (hOo.sl M).one_
  refine WR.storeAll (by first | exact gN | exact gS rfl) hH4 rfl rfl (ls := [.int .i64 (nl : Int), vf]) rfl rfl (.there .here) (by (repeat' (first | exact all_nil | refine all_cons (by first | rfl | assumption) ?_))) rfl fun H5 hH5 => ?_
  repeat' (first | refine zA ?_ | (refine zM ?_; intro _ _) | refine zX ?_ | (refine zC ?_; intro _ _ _ _) | (refine zS ?_; intro _ _) | (apply Ws <;> intro hg))
  refine Ends.retCN rfl (l := [.int .i64 (nl : Int), vf]) ?_ ⟨vf, Mo ++ Mi, n1, rfl, by omega, ⟨vs, ?_, ?_, ?_⟩, ?_⟩
  · have := hH5.readN (b := n0 + 1) (u := 0) (lo := 0) (o := 0) (k := 2) (.tail _ (.head _)) (.row _ _ _ _) (Nat.le_refl _) (by simp)
    simpa using this
  · exact (hOo.sl M).mono fun q hq => by
      rcases List.mem_append.1 hq with h | h
      · simp [h]
      · simp [h]
  · simp [traysF, hvl]; omega
  · intro i hi
    have hi' : i < m := by simpa [traysF] using (Nat.lt_of_lt_of_le hi (by simp [traysF]; omega) : i < m)
    have he : (traysF nl m hs).getD i [] = formB nl (hs.getD i 0).toNat := by
      rw [getD_eq (by simp [traysF]; omega), getD_eq (show i < hs.length by omega)]
      simp [traysF]
    rw [he]
    exact (hvs i hi').mono fun q hq => by
      rcases List.mem_append.1 hq with h | h
      · simp [h]
      · simp [h]
  · rw [List.append_assoc]
    exact hH5.sub (.cons _ (.cons _ (.cons _ (.refl _))))
end
end Go.Proofs.Ytldhpaepfcpamaa.St

namespace Go.Proofs.Ytldhpaepfcpamaa.St
open Go Go.Abs Go.Mth
set_option linter.unusedVariables false
set_option linter.unusedSimpArgs false
theorem neq4 : ∀ a b : Bool, pureRun C.c.P (binOp .neq 4 (.bool a) (.bool b)) = some (.bool (a != b)) := by
  intro a b
  cases a <;> cases b <;> kernel_rfl
attribute [local irreducible] gOK WS WC WR WD Ends FS YS OpV seqK blockK loopK midK retK rdK asgK rangeEnd sat Cell

/-! What is right, is accepted. -/
theorem form_intro {n : Int} {l : List Int} (h1 : 1 ≤ l.length) (h2 : ∀ x ∈ l, 0 ≤ x ∧ x < n) (h3 : l.Pairwise (· < ·)) : formE n l = 0 := by
  rw [formE, if_neg (by omega), firstE_zero]
  intro i hi
  have h4 := h2 _ (getD_mem (a := 0) hi)
  rw [formAt, if_neg (by omega)]
  rw [if_neg]
  rintro ⟨h5, h6⟩
  have := List.pairwise_iff_getElem.1 h3 (i - 1) i (by omega) hi (by omega)
  rw [getD_eq hi, getD_eq (show i - 1 < l.length by omega)] at h6
  omega
theorem both_intro {n : Int} {fs : List (List Int)} {o : List Int} (hf : findsE n fs = 0) (h1 : (o.length : Int) = n) (h2 : ∀ x ∈ o, 0 ≤ x ∧ x < n) (h3 : o.Nodup) : bothE n fs o = 0 := by
  rw [bothE, if_neg (by omega), if_neg (by omega), firstE_zero]
  intro i hi
  have h4 := h2 _ (getD_mem (a := 0) hi)
  rw [orderAt, if_neg (by omega), if_neg]
  intro hin
  obtain ⟨j, hj, he⟩ := List.mem_iff_getElem.1 hin
  rw [List.getElem_take] at he
  have hjl : j < i := by simp at hj; omega
  rw [getD_eq hi] at he
  exact (List.pairwise_iff_getElem.1 h3 j i (by omega) hi hjl) he
theorem formB_ok {n x : Nat} (hn : 1 ≤ n) : formE n (formB n x) = 0 := by
  unfold formB
  split
  · exact form_intro (by simp) (fun y hy => by simp at hy; omega) (by simp)
  · rename_i h
    refine form_intro ?_ (fun y hy => ?_) ?_
    · have : bitsOf n x ≠ [] := h
      exact List.length_pos_iff.2 this
    · unfold bitsOf at hy
      obtain ⟨i, hi, rfl⟩ := List.mem_map.1 hy
      have := List.mem_range.1 (List.mem_filter.1 hi).1
      omega
    · unfold bitsOf
      refine List.pairwise_map.2 ((List.Pairwise.filter _ List.pairwise_lt_range).imp fun h => ?_)
      omega
theorem trays_ok {n m : Nat} {hs : List Int} (hn : 1 ≤ n ∧ n ≤ 7) (hm : m ≤ 10) : findsE n (traysF n m hs) = 0 := by
  rw [findsE, if_neg (by omega), if_neg (by simp [traysF]; omega), firstE_zero]
  intro i hi
  have : (traysF n m hs).getD i [] ∈ traysF n m hs := getD_mem hi
  obtain ⟨x, _, hx⟩ := List.mem_map.1 this
  rw [← hx]; exact formB_ok hn.1

section
variable {n : Int} {fs : List (List Int)} {o : List Int}
theorem rev_ok (h : bothE n fs o = 0) : bothE n fs o.reverse = 0 := by
  obtain ⟨h1, h2, h3, h4⟩ := both_ok h
  exact both_intro h1 (by simpa using h2) (fun x hx => h3 x (by simpa using hx)) (List.pairwise_reverse.2 (h4.imp fun h => h.symm))
theorem bit_rev {l : List Int} {i : Nat} (hi : i < o.length) : bitF l o.reverse i = bitF l o (o.length - 1 - i) := by
  unfold bitF
  rw [getD_eq (show i < o.reverse.length by simpa using hi), getD_eq (show o.length - 1 - i < o.length by omega), List.getElem_reverse]
theorem RN_o_rev {l : List Int} : RN (bitF l o.reverse) o.reverse.length = RN (bitF l o) o.length := by
  rw [List.length_reverse, ← RN_rev (bitF l o), RN_congr fun j hj => bit_rev hj]
theorem gsumF_rev : ∀ k, gsumF fs o.reverse k = gsumF fs o k
  | 0 => rfl
  | k + 1 => by rw [gsumF, gsumF, gsumF_rev k, RN_o_rev]
theorem dates_ends (h : bothE n fs o = 0) {ps : List (Int × Int)} (h1 : DatesS (masksOf fs) o ps fs.length) {i : Nat} (hi : i < fs.length) : ∃ a b : Nat, ps.getD i (0, 0) = ((a : Int), (b : Int)) ∧ Ends2 (bitF (fs.getD i []) o) o.length a b := by
  obtain ⟨j, hj, hb⟩ := some_bit h hi
  obtain ⟨a, b, e1, k1⟩ := h1 i hi
  have hs := fun j hj => bit_same h hi (j := j) hj
  rcases k1 with k1 | k1
  · have := k1 j hj; rw [hs j hj, hb] at this; cases this
  exact ⟨a, b, e1, by rw [← hs a k1.ak]; exact k1.pa, k1.ak, fun j hj => by rw [← hs j (by have := k1.ak; omega)]; exact k1.lo j hj, by rw [← hs b k1.bk]; exact k1.pb, k1.bk, fun j hj hk => by rw [← hs j hk]; exact k1.hi j hj hk⟩
theorem ends_rev {l : List Int} {a b : Nat} (h : Ends2 (bitF l o) o.length a b) : Ends2 (bitF l o.reverse) o.length (o.length - 1 - b) (o.length - 1 - a) := by
  have h1 := h.rev
  have hs := fun j (hj : j < o.length) => bit_rev (l := l) hj
  exact ⟨by rw [hs _ h1.ak]; exact h1.pa, h1.ak, fun j hj => by rw [hs j (by have := h1.ak; omega)]; exact h1.lo j hj, by rw [hs _ h1.bk]; exact h1.pb, h1.bk, fun j hj hk => by rw [hs j hk]; exact h1.hi j hj hk⟩
theorem cnt_take {l : List Int} : ∀ k, k ≤ o.length → cntN (bitF l o) k = ((o.take k).filter fun x => decide (x ∈ l)).length
  | 0, _ => by simp [cntN, sumN]
  | k + 1, hk => by
    have ih := cnt_take (l := l) k (by omega)
    rw [cntN] at ih ⊢
    rw [sumN, ih, List.take_add_one, List.getElem?_eq_getElem (show k < o.length by omega), Option.toList_some, List.filter_append, List.length_append]
    congr 1
    unfold bitF
    rw [getD_eq (show k < o.length by omega)]
    by_cases h : o[k] ∈ l <;> simp [h]
/-- As many places as layers. -/
theorem cnt_form (h : bothE n fs o = 0) {i : Nat} (hi : i < fs.length) : cntN (bitF (fs.getD i []) o) o.length = (fs.getD i []).length := by
  obtain ⟨hf0, hon, hob, hnd⟩ := both_ok h
  obtain ⟨h1, h2, h3⟩ := form_ok ((finds_ok hf0).2.2.2 _ (getD_mem (a := []) hi))
  rw [cnt_take _ (Nat.le_refl _), List.take_length]
  refine List.Perm.length_eq ((List.perm_ext_iff_of_nodup (hnd.filter _) (h3.imp fun h => by omega)).2 fun x => ?_)
  rw [List.mem_filter, decide_eq_true_eq]
  exact ⟨fun h => h.2, fun h => ⟨nodup_allI hnd hob hon (h2 x h), h⟩⟩
end
end Go.Proofs.Ytldhpaepfcpamaa.St

namespace Go.Proofs.Ytldhpaepfcpamaa.St
open Go Go.Abs Go.Mth
set_option linter.unusedVariables false
set_option linter.unusedSimpArgs false
attribute [local irreducible] gOK WS WC WR WD Ends FS YS OpV seqK blockK loopK midK retK rdK asgK rangeEnd sat Cell

set_option maxHeartbeats 4000000 in
theorem StyleGaps_fs {M : HL} {n0 : Nat} {H : Heap} (hH : hasH M n0 H) {a b : Int} {hs us : List Int} (ha : 0 ≤ a ∧ a ≤ 255) (hb : 0 ≤ b ∧ b ≤ 255) (hl : hs.length = 10) (hu : ∀ x ∈ hs, 0 ≤ x ∧ x ≤ 255) (hul : us.length = 7) (huu : ∀ x ∈ us, 0 ≤ x ∧ x ≤ 255) :
    FS C 10 [.agg (trays a b hs).toArray, .agg (bytesV us).toArray] H (fun e H' => e = .bool true) := by
  have hone := trays_one a b hs
  have hone2 := bytes_one us
  refine FS.intro (pf := pf10) rfl rfl rfl ?_
  repeat' (first | refine zA ?_ | (refine zM ?_; intro _ _) | refine zX ?_ | (refine zC ?_; intro _ _ _ _) | (refine zS ?_; intro _ _))
  rename_i H1 hH1
  have hmU : (n0 + 1, Ch.row 74 0 0 (bytesV us)) ∈ (n0 + 1, Ch.row 74 0 0 (bytesV us)) :: (n0, Ch.row 60 0 0 (trays a b hs)) :: M := .head _
  refine WR.op (by first | exact gN | exact gS rfl) rfl (OpV.loadAll (k := 12) rfl hH1 (.tail _ (.head _)) (.row _ _ _ _) (by simp [trays, hl])) ?_
  generalize (n0 + 1, Ch.row 74 0 0 (bytesV us)) :: (n0, Ch.row 60 0 0 (trays a b hs)) :: M = T at hH1 hmU
  refine WR.call (by first | exact gN | exact gS rfl) rfl rfl (made_fs hH1 ha hb hl hu (ly := 7) (fm := 10) (by omega) (by omega)) ?_
  rintro _ H2 ⟨v, M2, n2, rfl, hn2, hR, hH2⟩
  obtain ⟨nl, hnl⟩ : ∃ nl, 1 + a.toNat % 7 = nl := ⟨_, rfl⟩
  obtain ⟨m, hm⟩ : ∃ m, b.toNat % (10 + 1) = m := ⟨_, rfl⟩
  rw [hnl, hm] at hR
  rw [hnl]
  have hnl7 : 1 ≤ nl ∧ nl ≤ 7 := by omega
  have hm10 : m ≤ 10 := by omega
  have hf0 := trays_ok (hs := hs) hnl7 hm10
  generalize traysF nl m hs = fs at hR hf0
  replace hmU := List.mem_append_right M2 hmU
  have h1 := hR.one_
  clear hH1 hnl hm
  generalize M2 ++ T = T at hH2 hmU hR
  repeat' (first | refine zA ?_ | (refine zM ?_; intro _ _) | refine zX ?_ | (refine zC ?_; intro _ _ _ _) | (refine zS ?_; intro _ _) | (apply Ws <;> intro hg))
  rename_i H3 hH3
  refine WR.storeAll (by first | exact gN | exact gS rfl) hH3 rfl rfl (ls := [.int .i64 (nl : Int), v]) rfl rfl .here (by (repeat' (first | exact all_nil | refine all_cons (by first | rfl | assumption) ?_))) rfl fun H4 hH4 => ?_
  clear hH3 hH2
  have hmF : (n2, Ch.row 24 0 0 [.int .i64 (nl : Int), v]) ∈ (n2, Ch.row 24 0 0 [.int .i64 (nl : Int), v]) :: T := .head _
  replace hmU : (n0 + 1, Ch.row 74 0 0 (bytesV us)) ∈ (n2, Ch.row 24 0 0 [.int .i64 (nl : Int), v]) :: T := .tail _ hmU
  replace hR := hR.cons (p := (n2, .row 24 0 0 [.int .i64 (nl : Int), v]))
  generalize (n2, Ch.row 24 0 0 [.int .i64 (nl : Int), v]) :: T = T at hH4 hmU hR hmF
  obtain ⟨hn1, hn7, hl10, hfo⟩ := finds_ok hf0
  have hl1 : fs.length ≤ 1000 := by omega
  have hll1 : ∀ l ∈ fs, l.length ≤ 1000 := fun l hl => by
    obtain ⟨g1, g2, g3⟩ := form_ok (hfo l hl)
    have h7 := List.pairwise_iff_getElem.1 g3
    have hbb : ∀ i (hi : i < l.length), (i : Int) ≤ l[i] := by
      intro i
      induction i with
      | zero => intro hi; have := g2 _ (List.getElem_mem hi); omega
      | succ i ih => intro hi; have := ih (by omega); have := h7 i (i + 1) (by omega) hi (by omega); omega
    have := hbb (l.length - 1) (by omega)
    have := g2 _ (List.getElem_mem (show l.length - 1 < l.length by omega))
    omega
  repeat' (first | refine zA ?_ | (refine zM ?_; intro _ _) | refine zX ?_ | (refine zC ?_; intro _ _ _ _) | (refine zS ?_; intro _ _) | (apply Ws <;> intro hg))
  refine WR.op (by first | exact gN | exact gS rfl) rfl (OpV.loadAll (k := 7) rfl hH4 hmU (.row _ _ _ _) (by simp [hul])) ?_
  refine WR.call (by first | exact gN | exact gS rfl) rfl rfl (order_fs hH4 hnl7 hul huu) ?_
  rintro vo H5 ⟨M5, n5, o, hn5, hOo, hH5, hol, hperm⟩
  have hob : ∀ x ∈ o, 0 ≤ x ∧ x < (nl : Int) := fun x hx => by
    have := hperm.mem_iff.1 hx
    obtain ⟨i, hi, rfl⟩ := List.mem_map.1 this
    have := List.mem_range.1 hi
    omega
  have hnd : o.Nodup := hperm.nodup_iff.2 (List.pairwise_map.2 (List.nodup_range.imp fun h => by omega))
  have hB : bothE nl fs o = 0 := both_intro hf0 (by omega) hob hnd
  have hBr := rev_ok hB
  have hSo : Sl (M5 ++ T) 1 vo (ints o) := hOo.sl T
  replace hR : RowsI (M5 ++ T) v fs := hR.mono fun q hq => List.mem_append_right _ hq
  replace hmF := List.mem_append_right M5 hmF
  clear hmU hH4 hOo hperm
  generalize M5 ++ T = T at hH5 hR hmF hSo
  repeat' (first | refine zA ?_ | (refine zM ?_; intro _ _) | refine zX ?_ | (refine zC ?_; intro _ _ _ _) | (refine zS ?_; intro _ _) | (apply Ws <;> intro hg))
  refine WR.call (by first | exact gN | exact gS rfl) rfl rfl (Clone_fs hH5 hSo (by omega) (by omega)) ?_
  rintro _ H6 ⟨bc, n6, rfl, hn6, hH6⟩
  clear hH5
  repeat' (first | refine zA ?_ | (refine zM ?_; intro _ _) | refine zX ?_ | (refine zC ?_; intro _ _ _ _) | (refine zS ?_; intro _ _) | (apply Ws <;> intro hg))
  refine WR.call (by first | exact gN | exact gS rfl) rfl rfl (Reverse_fs (m := 0) hH6 (by omega)) ?_
  rintro e7 H7 hH7
  clear hH6
  have hSb : Sl ((bc, .row 3 0 0 (ints o.reverse)) :: T) 1 (.slice (some ⟨bc, 0, some 0⟩) o.length (2 * 1)) (ints o.reverse) :=
    .row (lo := 0) (cs := ints o.reverse) (.head _) (.row _ _ _ _) (Nat.zero_le _) (by simp) (by simp [List.take_of_length_le]) (by simp) (.inl (.inl rfl))
  replace hR := hR.cons (p := (bc, .row 3 0 0 (ints o.reverse)))
  replace hSo := hSo.cons (p := (bc, .row 3 0 0 (ints o.reverse)))
  replace hmF : (n2, Ch.row 24 0 0 [.int .i64 (nl : Int), v]) ∈ (bc, Ch.row 3 0 0 (ints o.reverse)) :: T := .tail _ hmF
  generalize (bc, Ch.row 3 0 0 (ints o.reverse)) :: T = T at hH7 hR hmF hSo hSb
  have holl : o.length ≤ 1000 := by omega
  have hrl : o.reverse.length ≤ 1000 := by simp; omega
  repeat' (first | refine zA ?_ | (refine zM ?_; intro _ _) | refine zX ?_ | (refine zC ?_; intro _ _ _ _) | (refine zS ?_; intro _ _) | (apply Ws <;> intro hg))
  refine WR.call (by first | exact gN | exact gS rfl) rfl rfl (Whole_fs hH7 hR hl1 hll1 hSo holl nl) ?_
  rintro _ H8 ⟨rfl, n8, hn8, hH8⟩
  clear hH7
  rw [if_pos hB, hB, gsum_same hB _ (Nat.le_refl _)]
  repeat' (first | refine zA ?_ | (refine zM ?_; intro _ _) | refine zX ?_ | (refine zC ?_; intro _ _ _ _) | (refine zS ?_; intro _ _) | (apply Ws <;> intro hg))
  refine WR.call (by first | exact gN | exact gS rfl) rfl rfl (Gaps_fs hH8 hR hl1 hll1 hSo holl nl) ?_
  rintro _ H9 ⟨rfl, n9, hn9, hH9⟩
  clear hH8
  rw [if_pos hB, hB, gsum_same hB _ (Nat.le_refl _)]
  repeat' (first | refine zA ?_ | (refine zM ?_; intro _ _) | refine zX ?_ | (refine zC ?_; intro _ _ _ _) | (refine zS ?_; intro _ _) | (apply Ws <;> intro hg))
  refine WR.call (by first | exact gN | exact gS rfl) rfl rfl (Dates_fs hH9 hR hl1 hll1 hSo holl nl) ?_
  rintro _ H10 ⟨n10, M10, vd, ps, rfl, hn10, hSd, hH10, hp10⟩
  clear hH9
  rw [hB]
  obtain ⟨hpl, hds⟩ : ps.length = fs.length ∧ DatesS (masksOf fs) o ps fs.length := by
    rcases hp10 with ⟨h2, _⟩ | ⟨_, h3, h4⟩
    · exact absurd hB h2
    · exact ⟨h3, h4⟩
  clear hp10
  replace hR : RowsI (M10 ++ T) v fs := hR.mono fun q hq => List.mem_append_right _ hq
  replace hSo : Sl (M10 ++ T) 1 vo (ints o) := hSo.mono fun q hq => List.mem_append_right _ hq
  replace hSb := hSb.mono (M' := M10 ++ T) fun q hq => List.mem_append_right _ hq
  replace hmF := List.mem_append_right M10 hmF
  generalize M10 ++ T = T at hH10 hR hmF hSo hSb hSd
  obtain ⟨vs, hSv, hvl, hvs⟩ := id hR
  repeat' (first | refine zA ?_ | (refine zM ?_; intro _ _) | refine zX ?_ | (refine zC ?_; intro _ _ _ _) | (refine zS ?_; intro _ _) | refine zO ?_ | (apply Ws <;> intro hg))
  refine WR.op (by first | exact gN | exact gS rfl) rfl (OpV.len2 rfl hSd) ?_
  repeat' (first | refine zA ?_ | (refine zM ?_; intro _ _) | refine zX ?_ | (refine zC ?_; intro _ _ _ _) | (refine zS ?_; intro _ _) | refine zO ?_ | (apply Ws <;> intro hg))
  -- form by form
  refine WC.loopX [(5, _), (6, _), (7, _), (8, _), (9, _), (11, _), (13, _), (75, _), (76, _)] (fun k : Nat => [(15, .int .i64 (gsumF fs o k)), (77, .int .i64 (k : Int))]) [] (fun k H' => H' = H10 ∧ k ≤ fs.length) (fun k => fs.length - k) 0 (by repeat' (first | exact .nil | refine .cons rfl ?_)) rfl ⟨rfl, Nat.zero_le _⟩ ?_
  rintro k HA ⟨rfl, hk⟩
  have hgb := gsumF_bd (fs := fs) holl k
  dsimp only [List.cons_append, List.nil_append]
  repeat' (first | refine zA ?_ | (refine zM ?_; intro _ _) | refine zX ?_ | (refine zC ?_; intro _ _ _ _) | (refine zS ?_; intro _ _) | (apply Ws <;> intro hg))
  refine WC.condP rfl (fun hlt => ?_) (fun hlt => ?_)
  · have hk' : k < fs.length := by omega
    have hSk := hvs k hk'
    obtain ⟨a', b', hps, hE⟩ := dates_ends hB hds hk'
    have hcnt := cnt_form hB hk'
    have hlk := hll1 _ (getD_mem (a := []) hk')
    have hrl2 := RN_le (bitF (fs.getD k []) o) o.length
    have hrun : RN (bitF (fs.getD k []) o) o.length - 1 = 0 ↔ (fs.getD k []).length = b' - a' + 1 := by
      rcases runs_all (p := bitF (fs.getD k []) o) o.length with h2 | ⟨a2, b2, h2, h3, h4, h5⟩
      · have := hE.pa; rw [h2 _ hE.ak] at this; cases this
      · obtain ⟨rfl, rfl⟩ := hE.unique h2
        rw [← hcnt, ← h5]; omega
    have hpos := runs_pos hB hk'
    have hgs : gsumF fs o (k + 1) = gsumF fs o k + ((RN (bitF (fs.getD k []) o) o.length - 1 : Nat) : Int) := by rw [gsumF]; omega
    have hab := hE.le
    have hbk := hE.bk
    obtain ⟨l, hle⟩ : ∃ l, fs.getD k [] = l := ⟨_, rfl⟩
    rw [hle] at hSk hE hcnt hlk hrl2 hrun hpos hgs
    repeat' (first | refine zA ?_ | (refine zM ?_; intro _ _) | refine zX ?_ | (refine zC ?_; intro _ _ _ _) | (refine zS ?_; intro _ _) | (apply Ws <;> intro hg))
    refine WC.loopX [(5, _), (6, _), (7, _), (8, _), (9, _), (11, _), (13, _), (15, _), (16, _), (17, _), (75, _), (76, _), (77, _), (83, _), (84, _)] (fun s : Nat × Int × Int => [(18, .int .i64 s.2.1), (19, .int .i64 s.2.2), (85, .int .i64 (s.1 : Int))]) []
      (fun s H' => H' = HA ∧ s.1 ≤ o.length ∧ ((∀ i, i < s.1 → bitF l o i = false) ∧ s.2.1 = (o.length : Int) ∧ s.2.2 = -1 ∨ ∃ a b : Nat, s.2.1 = (a : Int) ∧ s.2.2 = (b : Int) ∧ Ends2 (bitF l o) s.1 a b)) (fun s => o.length - s.1) (0, (nl : Int), -1) (by repeat' (first | exact .nil | refine .cons rfl ?_)) rfl
      ⟨rfl, Nat.zero_le _, .inl ⟨fun i hi => absurd hi (Nat.not_lt_zero _), by simp only; omega, rfl⟩⟩ ?_
    rintro ⟨j, f1, f2⟩ HB ⟨rfl, hj, hff⟩
    simp only at hj hff
    dsimp only [List.cons_append, List.nil_append]
    repeat' (first | refine zA ?_ | (refine zM ?_; intro _ _) | refine zX ?_ | (refine zC ?_; intro _ _ _ _) | (refine zS ?_; intro _ _) | (apply Ws <;> intro hg))
    refine WC.condP rfl (fun hlt2 => ?_) (fun hlt2 => ?_)
    · have hj' : j < o.length := by omega
      repeat' (first | refine zA ?_ | (refine zM ?_; intro _ _) | refine zX ?_ | (refine zC ?_; intro _ _ _ _) | (refine zS ?_; intro _ _) | (apply Ws <;> intro hg))
      refine WR.call (by first | exact gN | exact gS rfl) rfl rfl (Contains_fs hH10 hSk (by omega) _) ?_
      rintro _ H11 ⟨rfl, rfl⟩
      by_cases hin : o.getD j 0 ∈ l
      · have hbt : bitF l o j = true := decide_eq_true hin
        rw [decide_eq_true hin]
        repeat' (first | refine zA ?_ | (refine zM ?_; intro _ _) | refine zX ?_ | (refine zC ?_; intro _ _ _ _) | (refine zS ?_; intro _ _) | (apply Ws <;> intro hg))
        refine Ends.loop (j + 1, min f1 (j : Int), (j : Int)) (by simp only; omega) (by repeat' (first | exact .nil | refine .cons rfl ?_)) rfl ⟨rfl, hj', .inr ?_⟩
        rcases hff with ⟨h2, rfl, rfl⟩ | ⟨a2, b2, rfl, rfl, h2⟩
        · exact ⟨j, j, by simp only; omega, rfl, .first hbt h2⟩
        · have := h2.ak
          exact ⟨a2, j, by simp only; omega, rfl, h2.next hbt⟩
      · have hbt : bitF l o j = false := decide_eq_false hin
        rw [decide_eq_false hin]
        repeat' (first | refine zA ?_ | (refine zM ?_; intro _ _) | refine zX ?_ | (refine zC ?_; intro _ _ _ _) | (refine zS ?_; intro _ _) | (apply Ws <;> intro hg))
        refine Ends.loop (j + 1, f1, f2) (by simp only; omega) (by repeat' (first | exact .nil | refine .cons rfl ?_)) rfl ⟨rfl, hj', ?_⟩
        rcases hff with ⟨h2, h3, h4⟩ | ⟨a2, b2, h3, h4, h2⟩
        · refine .inl ⟨fun i hi => ?_, h3, h4⟩
          rcases Nat.lt_or_ge i j with h5 | h5
          · exact h2 i h5
          · have : i = j := by simp only at hi; omega
            subst this; exact hbt
        · exact .inr ⟨a2, b2, h3, h4, h2.skip hbt⟩
    have hjl : j = o.length := by omega
    subst hjl
    obtain ⟨rfl, rfl⟩ : f1 = (a' : Int) ∧ f2 = (b' : Int) := by
      rcases hff with ⟨h2, _, _⟩ | ⟨a2, b2, rfl, rfl, h2⟩
      · have := hE.pa; rw [h2 _ hE.ak] at this; cases this
      · obtain ⟨rfl, rfl⟩ := hE.unique h2
        exact ⟨rfl, rfl⟩
    clear hff hlt2 hj
    repeat' (first | refine zA ?_ | (refine zM ?_; intro _ _) | refine zX ?_ | (refine zC ?_; intro _ _ _ _) | (refine zS ?_; intro _ _) | (apply Ws <;> intro hg))
    refine WR.call (by first | exact gN | exact gS rfl) rfl rfl (lawgaps_fs hH10 hSk (by omega) hSo holl) ?_
    rintro _ H11 ⟨rfl, rfl⟩
    repeat' (first | refine zA ?_ | (refine zM ?_; intro _ _) | refine zX ?_ | (refine zC ?_; intro _ _ _ _) | (refine zS ?_; intro _ _) | (apply Ws <;> intro hg))
    rw [← hgs]
    refine WR.idx2 (by first | exact gN | exact gS rfl) rfl rfl hSd rfl (by omega) fun b1 o1' u1 hc1 => ?_
    refine WR.op (by first | exact gN | exact gS rfl) rfl (OpV.load2 rfl hc1 hH10) ?_
    rw [hps]
    repeat' (first | refine zA ?_ | (refine zM ?_; intro _ _) | refine zX ?_ | (refine zC ?_; intro _ _ _ _) | (refine zS ?_; intro _ _) | (apply Ws <;> intro hg))
    refine WR.op (by first | exact gN | exact gS rfl) rfl (OpV.bldA (vs := [(0, .int .i64 (a' : Int)), (1, .int .i64 (b' : Int))]) rfl (cs := #[.int .i64 (a' : Int), .int .i64 (b' : Int)]) (by rfl)) ?_
    refine WR.op (by first | exact gN | exact gS rfl) rfl (OpV.neA arr2 rfl rfl) ?_
    rw [decide_eq_false (show ¬ ¬ ((a' : Int) = (a' : Int) ∧ (b' : Int) = (b' : Int)) by simp)]
    repeat' (first | refine zA ?_ | (refine zM ?_; intro _ _) | refine zX ?_ | (refine zC ?_; intro _ _ _ _) | (refine zS ?_; intro _ _) | (apply Ws <;> intro hg))
    refine WR.op (by first | exact gN | exact gS rfl) rfl (OpV.neB (neq4 _ _) rfl rfl) ?_
    rw [show (decide (((RN (bitF l o) o.length - 1 : Nat) : Int) = 0) != decide ((l.length : Int) = (b' : Int) - (a' : Int) + 1)) = false by
      by_cases h2 : RN (bitF l o) o.length - 1 = 0
      · have := hrun.1 h2
        rw [decide_eq_true (by omega), decide_eq_true (by omega)]; rfl
      · have h3 : ¬ l.length = b' - a' + 1 := fun h => h2 (hrun.2 h)
        rw [decide_eq_false (by omega), decide_eq_false (by omega)]; rfl]
    repeat' (first | refine zA ?_ | (refine zM ?_; intro _ _) | refine zX ?_ | (refine zC ?_; intro _ _ _ _) | (refine zS ?_; intro _ _) | (apply Ws <;> intro hg))
    exact Ends.loop (k + 1) (by omega) (by repeat' (first | exact .nil | refine .cons rfl ?_)) rfl ⟨rfl, hk'⟩
  have hkl : k = fs.length := by omega
  subst hkl
  clear hlt hk
  obtain ⟨g, hg0⟩ : ∃ g, gsumF fs o fs.length = g := ⟨_, rfl⟩
  have hgr : gsum (masksOf fs) o.reverse fs.length = g := by rw [gsum_same hBr _ (Nat.le_refl _), gsumF_rev, hg0]
  rw [hg0]
  repeat' (first | refine zA ?_ | (refine zM ?_; intro _ _) | refine zX ?_ | (refine zC ?_; intro _ _ _ _) | (refine zS ?_; intro _ _) | (apply Ws <;> intro hg))
  refine WR.call (by first | exact gN | exact gS rfl) rfl rfl (Whole_fs hH10 hR hl1 hll1 hSb hrl nl) ?_
  rintro _ H12 ⟨rfl, n12, hn12, hH12⟩
  clear hH10
  rw [if_pos hBr, hBr, hgr]
  repeat' (first | refine zA ?_ | (refine zM ?_; intro _ _) | refine zX ?_ | (refine zC ?_; intro _ _ _ _) | (refine zS ?_; intro _ _) | (apply Ws <;> intro hg))
  refine WR.call (by first | exact gN | exact gS rfl) rfl rfl (Gaps_fs hH12 hR hl1 hll1 hSb hrl nl) ?_
  rintro _ H13 ⟨rfl, n13, hn13, hH13⟩
  clear hH12
  rw [if_pos hBr, hBr, hgr]
  repeat' (first | refine zA ?_ | (refine zM ?_; intro _ _) | refine zX ?_ | (refine zC ?_; intro _ _ _ _) | (refine zS ?_; intro _ _) | (apply Ws <;> intro hg))
  refine WR.call (by first | exact gN | exact gS rfl) rfl rfl (Dates_fs hH13 hR hl1 hll1 hSb hrl nl) ?_
  rintro _ H14 ⟨n14, M14, vq, qs, rfl, hn14, hSq, hH14, hq14⟩
  clear hH13
  rw [hBr]
  obtain ⟨hql, hqs⟩ : qs.length = fs.length ∧ DatesS (masksOf fs) o.reverse qs fs.length := by
    rcases hq14 with ⟨h2, _⟩ | ⟨_, h3, h4⟩
    · exact absurd hBr h2
    · exact ⟨h3, h4⟩
  clear hq14
  replace hSd : Sl (M14 ++ T) 2 vd (pcells ps) := hSd.mono fun q hq => List.mem_append_right _ hq
  clear hmF hSo hSb hvs hSv hR
  generalize M14 ++ T = T at hH14 hSd hSq
  repeat' (first | refine zA ?_ | (refine zM ?_; intro _ _) | refine zX ?_ | (refine zC ?_; intro _ _ _ _) | (refine zS ?_; intro _ _) | refine zO ?_ | (apply Ws <;> intro hg))
  refine WR.op (by first | exact gN | exact gS rfl) rfl (OpV.neB (neq4 _ _) rfl rfl) ?_
  rw [show (decide (g = 0) != decide (g = 0)) = false by simp]
  repeat' (first | refine zA ?_ | (refine zM ?_; intro _ _) | refine zX ?_ | (refine zC ?_; intro _ _ _ _) | (refine zS ?_; intro _ _) | refine zO ?_ | (apply Ws <;> intro hg))
  refine WR.op (by first | exact gN | exact gS rfl) rfl (OpV.neB (neq4 _ _) rfl rfl) ?_
  rw [show (decide (g = 0) != decide (g = 0)) = false by simp]
  repeat' (first | refine zA ?_ | (refine zM ?_; intro _ _) | refine zX ?_ | (refine zC ?_; intro _ _ _ _) | (refine zS ?_; intro _ _) | refine zO ?_ | (apply Ws <;> intro hg))
  refine WR.op (by first | exact gN | exact gS rfl) rfl (OpV.len2 rfl hSq) ?_
  repeat' (first | refine zA ?_ | (refine zM ?_; intro _ _) | refine zX ?_ | (refine zC ?_; intro _ _ _ _) | (refine zS ?_; intro _ _) | (apply Ws <;> intro hg))
  refine WR.op (by first | exact gN | exact gS rfl) rfl (OpV.len2 rfl hSd) ?_
  repeat' (first | refine zA ?_ | (refine zM ?_; intro _ _) | refine zX ?_ | (refine zC ?_; intro _ _ _ _) | (refine zS ?_; intro _ _) | refine zO ?_ | (apply Ws <;> intro hg))
  refine WR.op (by first | exact gN | exact gS rfl) rfl (OpV.len2 rfl hSq) ?_
  repeat' (first | refine zA ?_ | (refine zM ?_; intro _ _) | refine zX ?_ | (refine zC ?_; intro _ _ _ _) | (refine zS ?_; intro _ _) | refine zO ?_ | (apply Ws <;> intro hg))
  refine WC.loopX [(6, _), (13, _), (25, _), (181, _), (182, _)] (fun k : Nat => [(183, .int .i64 (k : Int))]) [] (fun k H' => H' = H14 ∧ k ≤ fs.length) (fun k => fs.length - k) 0 (by repeat' (first | exact .nil | refine .cons rfl ?_)) rfl ⟨rfl, Nat.zero_le _⟩ ?_
  rintro k HA ⟨rfl, hk⟩
  dsimp only [List.cons_append, List.nil_append]
  repeat' (first | refine zA ?_ | (refine zM ?_; intro _ _) | refine zX ?_ | (refine zC ?_; intro _ _ _ _) | (refine zS ?_; intro _ _) | (apply Ws <;> intro hg))
  refine WC.condP rfl (fun hlt => ?_) (fun hlt => ?_)
  · have hk' : k < fs.length := by omega
    obtain ⟨a', b', hps, hE⟩ := dates_ends hB hds hk'
    obtain ⟨a2, b2, hqq, hE2⟩ := dates_ends hBr hqs hk'
    have hE3 := ends_rev hE
    rw [List.length_reverse] at hE2
    obtain ⟨rfl, rfl⟩ := hE2.unique hE3
    have hab := hE.le
    have hbk := hE.bk
    repeat' (first | refine zA ?_ | (refine zM ?_; intro _ _) | refine zX ?_ | (refine zC ?_; intro _ _ _ _) | (refine zS ?_; intro _ _) | (apply Ws <;> intro hg))
    refine WR.idx2 (by first | exact gN | exact gS rfl) rfl rfl hSq rfl (by omega) fun b1 o1' u1 hc1 => ?_
    refine WR.op (by first | exact gN | exact gS rfl) rfl (OpV.load2 rfl hc1 hH14) ?_
    rw [hqq]
    repeat' (first | refine zA ?_ | (refine zM ?_; intro _ _) | refine zX ?_ | (refine zC ?_; intro _ _ _ _) | (refine zS ?_; intro _ _) | (apply Ws <;> intro hg))
    refine WR.idx2 (by first | exact gN | exact gS rfl) rfl rfl hSd rfl (by omega) fun b3 o3' u3 hc3 => ?_
    rw [hps] at hc3
    have hc3s := hc3.snd
    have hc3f : Cell T b3 (o3' + 0) u3 _ := hc3.fst
    repeat' (first | refine zA ?_ | (refine zM ?_; intro _ _) | refine zX ?_ | (refine zC ?_; intro _ _ _ _) | (refine zS ?_; intro _ _) | (apply Ws <;> intro hg))
    refine WR.idx2 (by first | exact gN | exact gS rfl) rfl rfl hSd rfl (by omega) fun b4 o4' u4 hc4 => ?_
    rw [hps] at hc4
    have hc4s := hc4.snd
    have hc4f : Cell T b4 (o4' + 0) u4 _ := hc4.fst
    repeat' (first | refine zA ?_ | (refine zM ?_; intro _ _) | refine zX ?_ | (refine zC ?_; intro _ _ _ _) | (refine zS ?_; intro _ _) | (apply Ws <;> intro hg))
    refine WR.op (by first | exact gN | exact gS rfl) rfl (OpV.bldA (vs := [(0, .int .i64 ((nl : Int) - 1 - (b' : Int))), (1, .int .i64 ((nl : Int) - 1 - (a' : Int)))]) rfl (cs := #[.int .i64 ((nl : Int) - 1 - (b' : Int)), .int .i64 ((nl : Int) - 1 - (a' : Int))]) (by rfl)) ?_
    refine WR.op (by first | exact gN | exact gS rfl) rfl (OpV.neA arr2 rfl rfl) ?_
    rw [decide_eq_false (show ¬ ¬ (((o.length - 1 - b' : Nat) : Int) = (nl : Int) - 1 - (b' : Int) ∧ ((o.length - 1 - a' : Nat) : Int) = (nl : Int) - 1 - (a' : Int)) by omega)]
    repeat' (first | refine zA ?_ | (refine zM ?_; intro _ _) | refine zX ?_ | (refine zC ?_; intro _ _ _ _) | (refine zS ?_; intro _ _) | (apply Ws <;> intro hg))
    exact Ends.loop (k + 1) (by omega) (by repeat' (first | exact .nil | refine .cons rfl ?_)) rfl ⟨rfl, hk'⟩
  repeat' (first | refine zA ?_ | (refine zM ?_; intro _ _) | refine zX ?_ | (refine zC ?_; intro _ _ _ _) | (refine zS ?_; intro _ _) | (apply Ws <;> intro hg))
  refine WR.call (by first | exact gN | exact gS rfl) rfl rfl (FS.works (C := C) (R := fun v H' => v = .bool true) rfl) ?_
  rintro _ _ rfl
  repeat' (first | refine zA ?_ | (refine zM ?_; intro _ _) | refine zX ?_ | (refine zC ?_; intro _ _ _ _) | (refine zS ?_; intro _ _) | (apply Ws <;> intro hg))
  exact Ends.ret1 rfl rfl
end Go.Proofs.Ytldhpaepfcpamaa.St
