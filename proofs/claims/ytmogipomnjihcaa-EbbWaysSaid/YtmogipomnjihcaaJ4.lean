/- Texts of the law, joined. -/
import Derived.Test.YtmogipomnjihcaaJ3
namespace Go.Proofs.Ytmogipomnjihcaa.Eb
open Go Go.Abs Go.Low
set_option linter.unusedVariables false
set_option linter.unusedSimpArgs false
attribute [local irreducible] gOK WS WC WR WD Ends FS YS OpV seqK blockK loopK midK retK rdK asgK rangeEnd sat Cell

/-- What the reference has found after so many rounds. -/
def FV (b : List Int) (K y : Nat) : Int := if 1 ≤ b.getD y 0 ∧ b.getD y 0 ≤ (K : Int) then b.getD y 0 else 0

theorem FV_pos {b : List Int} {K y : Nat} : 0 < FV b K y ↔ 1 ≤ b.getD y 0 ∧ b.getD y 0 ≤ (K : Int) := by
  unfold FV; split <;> omega
theorem FV_eq {b : List Int} {K J y : Nat} (h : J ≤ K) : (0 < FV b K y ∧ FV b K y = (J : Int)) ↔ 1 ≤ J ∧ b.getD y 0 = (J : Int) := by
  unfold FV; split <;> omega

def NearS (c r : Nat) (b : List Int) (K p : Nat) : Prop := (K = 0 ∧ r ∈ nbrs c r p) ∨ ∃ q, q < r ∧ q ∈ nbrs c r p ∧ 1 ≤ K ∧ b.getD q 0 = (K : Int)

section
variable {c r : Nat} {hs : List Int} {h : Int} (hh : HS c r hs) (hc6 : c ≤ 6) {b : List Int} (D : Dist c r hs h b)
include hh hc6 D

omit hc6 in
theorem dist_pos {p : Nat} (hp : p < r) : 1 ≤ b.getD p 0 := by
  rcases D.at_ hh (Nat.le_of_lt hp) with h3 | ⟨k, h3, h4, _⟩
  · omega
  · cases k with
    | zero => exact absurd h4.zero_ (by omega)
    | succ k => omega

omit hc6 in
theorem dist_high {p : Nat} (hp : p < r) (ht : ¬ hs.getD p 0 ≤ h) : b.getD p 0 = 37 := by
  rcases D.at_ hh (Nat.le_of_lt hp) with h3 | ⟨k, h3, h4, h5⟩
  · exact h3
  · have h1 := dist_pos hh D hp
    obtain ⟨k, rfl⟩ : ∃ k', k = k' + 1 := ⟨k - 1, by omega⟩
    have := hh.r36
    exact absurd (D.pred hh (Nat.le_of_lt hp) h3 (by omega)).1 ht

theorem near_iff {p K : Nat} (hp : p < r) (hK : K + 1 ≤ r) (ht : hs.getD p 0 ≤ h) (hn : ¬ 0 < FV b K p) : NearS c r b K p ↔ b.getD p 0 = ((K + 1 : Nat) : Int) := by
  have h36 := hh.r36
  have hcc : 1 ≤ c ∧ c ≤ 6 := ⟨hh.c1, hc6⟩
  have h1 := dist_pos hh D hp
  rw [FV_pos] at hn
  constructor
  · rintro (⟨rfl, hr⟩ | ⟨q, hq, hqn, hk, hqk⟩)
    · have := (D.rel r (Nat.le_refl _) (by rw [D.root]; decide) p (nbrs_symm hcc hh.cr (Nat.le_of_lt hp) hr) ht).2
      rw [D.root] at this
      omega
    · have := (D.rel q (Nat.le_of_lt hq) (by omega) p (nbrs_symm hcc hh.cr (Nat.le_of_lt hp) hqn) ht).2
      omega
  · intro hb
    obtain ⟨_, x, hx, hxn, hxk⟩ := D.pred hh (Nat.le_of_lt hp) hb (by omega)
    have hxp := nbrs_symm hcc hh.cr hx hxn
    by_cases hK0 : K = 0
    · subst hK0
      rcases D.at_ hh hx with h3 | ⟨k, h3, h4, _⟩
      · omega
      · have : k = 0 := by omega
        subst this
        have := h4.zero_
        subst this
        exact .inl ⟨rfl, hxp⟩
    · refine .inr ⟨x, ?_, hxp, by omega, hxk⟩
      rcases Nat.lt_or_ge x r with h2 | h2
      · exact h2
      · have : x = r := by omega
        subst this
        rw [D.root] at hxk; omega
end

structure GV where
  k : Nat
  zs : List Int
  n : Nat

structure GQ where
  q : Nat
  nr : Bool
  n : Nat

set_option maxHeartbeats 1000000 in
theorem stepsR_fs {M : HL} {n : Nat} {H : Heap} (hH : hasH M n H) {rows c : Nat} {v : Value} {xs : List Int} (hS : Sl M 1 v (ints xs)) (hh : HS c xs.length (padded xs)) (hc6 : c ≤ 6) (hrows : 1 ≤ rows ∧ rows ≤ 6) (hr : xs.length = rows * c) {p : Nat} (hp : p < xs.length)
    {h : Int} {b : List Int} (D : Dist c xs.length (padded xs) h b) :
    FS C 75 [.agg #[.int .i64 (rows : Int), .int .i64 (c : Int), v], .int .i64 (p : Int), .int .i64 h] H (fun e H' => e = .int .i64 (FV b xs.length p) ∧ ∃ n', n ≤ n' ∧ hasH M n' H') := by
  have h1 := hS.one_
  have h36 := hh.r36
  have hcc : 1 ≤ c ∧ c ≤ 6 := ⟨hh.c1, hc6⟩
  have hget : ∀ q, q < xs.length → (ints xs)[q]? = some (.int .i64 ((padded xs).getD q 0)) := fun q hq => by rw [padded_get (by omega)]; exact ints_get hq
  have hhigh := fun {y : Nat} => dist_high hh D (p := y)
  have hnear := fun {y K : Nat} => near_iff hh hc6 D (p := y) (K := K)
  have hpos := fun {y : Nat} => dist_pos hh D (p := y)
  generalize padded xs = hs at hget hhigh hnear
  refine FS.intro (pf := pf75) rfl rfl rfl ?_
  repeat' (first | refine zA ?_ | (refine zM ?_; intro _ _) | (apply Ws <;> intro hg))
  rename_i H1 hH1
  have hSv : Sl ((n, .row 27 0 0 [.int .i64 (rows : Int), .int .i64 (c : Int), v]) :: M) 1 v (ints xs) := hS.cons
  have hmT : (n, Ch.row 27 0 0 [.int .i64 (rows : Int), .int .i64 (c : Int), v]) ∈ (n, Ch.row 27 0 0 [.int .i64 (rows : Int), .int .i64 (c : Int), v]) :: M := .head _
  have hback : ∀ {Z : HL} {n' : Nat} {H' : Heap}, hasH (Z ++ ((n, Ch.row 27 0 0 [.int .i64 (rows : Int), .int .i64 (c : Int), v]) :: M)) n' H' → hasH (Z ++ M) n' H' := fun hq => hq.sub (.append (.refl _) (List.sublist_cons_self _ _))
  generalize (n, Ch.row 27 0 0 [.int .i64 (rows : Int), .int .i64 (c : Int), v]) :: M = T at hSv hmT hH1 hback
  refine WR.op (by first | exact gN | exact gS rfl) rfl (OpV.lenSI rfl hSv) ?_
  refine WR.mkS (by first | exact gN | exact gS rfl) rfl hH1 rfl rfl (by omega) rfl fun H2 hH2 => ?_
  rw [show List.replicate xs.length (Value.int .i64 0) = ints (List.replicate xs.length 0) by simp [ints]] at hH2
  have hz0 : ∀ y, y < xs.length → (List.replicate xs.length (0 : Int)).getD y 0 = FV b 0 y := by
    intro y hy
    rw [List.getD_eq_getElem?_getD, List.getElem?_replicate, if_pos hy, FV, if_neg (by omega)]; rfl
  clear hH1
  repeat' (first | refine zA ?_ | (refine zM ?_; intro _ _) | (apply Ws <;> intro hg))
  refine WC.loop (fun s : GV => [(1, .int .i64 (p : Int)), (2, .int .i64 h), (3, .pointer (some ⟨n, 0, some 0⟩)), (7, .slice (some ⟨n + 1, 0, some 0⟩) xs.length (2 * xs.length + 1)), (8, .int .i64 ((s.k + 1 : Nat) : Int))]) (fun _ => [])
    (fun s H => s.k ≤ xs.length ∧ s.zs.length = xs.length ∧ (∀ y, y < xs.length → s.zs.getD y 0 = FV b s.k y) ∧ hasH ((n + 1, .row 3 0 0 (ints s.zs)) :: T) s.n H ∧ n + 1 ≤ s.n) (fun s => xs.length - s.k) ⟨0, List.replicate xs.length 0, n + 1 + 1⟩ (by repeat' (first | exact .nil | refine .cons rfl ?_)) rfl
    ⟨Nat.zero_le _, by simp, hz0, hH2, by simp only; omega⟩ ?_
  clear hH2 hz0
  rintro ⟨K, zs, n3⟩ H3 ⟨hK, hzl, hz, hH3, hn3⟩
  simp only at hK hzl hz hH3 hn3
  dsimp only
  repeat' (first | refine zA ?_ | (refine zM ?_; intro _ _) | (apply Ws <;> intro hg))
  refine WC.condP rfl (fun hlt => ?_) (fun hlt => ?_)
  · have hK' : K + 1 ≤ xs.length := by omega
    repeat' (first | refine zA ?_ | (refine zM ?_; intro _ _) | (apply Ws <;> intro hg))
    refine WC.loop (fun s : GV => [(1, .int .i64 (p : Int)), (2, .int .i64 h), (3, .pointer (some ⟨n, 0, some 0⟩)), (7, .slice (some ⟨n + 1, 0, some 0⟩) xs.length (2 * xs.length + 1)), (8, .int .i64 ((K + 1 : Nat) : Int)), (9, .int .i64 (s.k : Int))]) (fun _ => [])
      (fun s H => s.k ≤ xs.length ∧ s.zs.length = xs.length ∧ (∀ y, y < xs.length → s.zs.getD y 0 = if y < s.k then FV b (K + 1) y else FV b K y) ∧ hasH ((n + 1, .row 3 0 0 (ints s.zs)) :: T) s.n H ∧ n + 1 ≤ s.n) (fun s => xs.length - s.k) ⟨0, zs, n3⟩ (by repeat' (first | exact .nil | refine .cons rfl ?_)) rfl
      ⟨Nat.zero_le _, hzl, fun y hy => by rw [if_neg (Nat.not_lt_zero _)]; exact hz y hy, hH3, hn3⟩ ?_
    clear hH3 hz hzl hlt hn3
    rintro ⟨y, zs, n3⟩ H3 ⟨hy, hzl, hz, hH3, hn3⟩
    simp only at hy hzl hz hH3 hn3
    dsimp only
    repeat' (first | refine zA ?_ | (refine zM ?_; intro _ _) | (apply Ws <;> intro hg))
    refine WC.condP rfl (fun hlt => ?_) (fun hlt => ?_)
    · have hy' : y < xs.length := by omega
      have hzy : zs.getD y 0 = FV b K y := by rw [hz y hy', if_neg (Nat.lt_irrefl _)]
      have hSf : Sl ((n + 1, .row 3 0 0 (ints zs)) :: T) 1 (.slice (some ⟨n + 1, 0, some 0⟩) xs.length (2 * xs.length + 1)) (ints zs) :=
        .row (lo := 0) (cs := ints zs) (.head _) (.row _ _ _ _) (Nat.zero_le _) (by simp; omega) (by rw [Nat.sub_self, List.drop_zero, List.take_length]) (by simp) (.inr ⟨xs.length, rfl, Nat.le_refl _⟩)
      have hSx : Sl ((n + 1, .row 3 0 0 (ints zs)) :: T) 1 v (ints xs) := hSv.cons
      have hmX : (n, Ch.row 27 0 0 [.int .i64 (rows : Int), .int .i64 (c : Int), v]) ∈ (n + 1, .row 3 0 0 (ints zs)) :: T := .tail _ hmT
      have hstay : FV b (K + 1) y = FV b K y → ∀ a, a < xs.length → zs.getD a 0 = if a < y + 1 then FV b (K + 1) a else FV b K a := by
        intro he a ha
        rw [hz a ha]
        by_cases h2 : a = y
        · subst h2; rw [if_neg (Nat.lt_irrefl _), if_pos (Nat.lt_succ_self _), he]
        · by_cases h3 : a < y
          · rw [if_pos h3, if_pos (by omega)]
          · rw [if_neg h3, if_neg (by omega)]
      repeat' (first | refine zA ?_ | (refine zM ?_; intro _ _) | (apply Ws <;> intro hg))
      refine WR.op (by first | exact gN | exact gS rfl) rfl (OpV.loadI (b := n + 1) (e := 3) (xs := zs) rfl hH3 (.head _) (by omega)) ?_
      rw [hzy]
      repeat' (first | refine zA ?_ | (refine zM ?_; intro _ _) | (apply Ws <;> intro hg))
      · have hf : 0 < FV b K y := hg
        refine Ends.loop ⟨y + 1, zs, n3⟩ (by simp only; omega) (by repeat' (first | exact .nil | refine .cons rfl ?_)) rfl ⟨hy', hzl, hstay ?_, hH3, hn3⟩
        have := FV_pos.1 hf
        unfold FV
        rw [if_pos (by omega), if_pos this]
      have hf : ¬ 0 < FV b K y := hg
      refine WR.idxSl (by first | exact gN | exact gS rfl) rfl rfl hSx rfl rfl (hget y hy') fun _ _ _ hc1 => ?_
      repeat' (first | refine zA ?_ | (refine zM ?_; intro _ _) | (apply Ws <;> intro hg))
      refine WC.condP rfl (fun hhi => ?_) (fun hhi => ?_)
      · have h37 := hhigh hy' (by omega)
        repeat' (first | refine zA ?_ | (refine zM ?_; intro _ _) | (apply Ws <;> intro hg))
        refine Ends.loop ⟨y + 1, zs, n3⟩ (by simp only; omega) (by repeat' (first | exact .nil | refine .cons rfl ?_)) rfl ⟨hy', hzl, hstay ?_, hH3, hn3⟩
        unfold FV
        rw [if_neg (by omega), if_neg (by omega)]
      have ht : hs.getD y 0 ≤ h := by omega
      have hni := hnear hy' hK' ht hf
      clear hhi hc1
      (first | refine zA ?_ | (refine zM ?_; intro _ _) | (apply Ws <;> intro hg))
      (first | refine zA ?_ | (refine zM ?_; intro _ _) | (apply Ws <;> intro hg))
      (first | refine zA ?_ | (refine zM ?_; intro _ _) | (apply Ws <;> intro hg))
      refine WC.joinE (fun s : GQ => [(1, .int .i64 (p : Int)), (2, .int .i64 h), (3, .pointer (some ⟨n, 0, some 0⟩)), (7, .slice (some ⟨n + 1, 0, some 0⟩) xs.length (2 * xs.length + 1)), (8, .int .i64 ((K + 1 : Nat) : Int)), (9, .int .i64 (y : Int)), (10, .bool s.nr)])  (fun _ => []) (fun s H => (s.nr = true ↔ K = 0 ∧ xs.length ∈ nbrs c xs.length y) ∧ hasH ((n + 1, .row 3 0 0 (ints zs)) :: T) s.n H ∧ n + 1 ≤ s.n) ?_ ?_
      · repeat' (first | refine zA ?_ | (refine zM ?_; intro _ _) | (apply Ws <;> intro hg))
        · have hK0 : K = 0 := by omega
          refine WR.call (by first | exact gN | exact gS rfl) rfl rfl (last_fs hH3 h1 hcc hrows hr hy') ?_
          rintro _ H4 ⟨rfl, n4, hn4, hH4⟩
          repeat' (first | refine zA ?_ | (refine zM ?_; intro _ _) | (apply Ws <;> intro hg))
          exact Ends.midE ⟨0, decide (xs.length ∈ nbrs c xs.length y), n4⟩ (by repeat' (first | exact .nil | refine .cons rfl ?_)) rfl ⟨by simp only [decide_eq_true_iff, hK0, true_and], hH4, by simp only; omega⟩
        · have hK0 : K ≠ 0 := by omega
          repeat' (first | refine zA ?_ | (refine zM ?_; intro _ _) | (apply Ws <;> intro hg))
          exact Ends.midE ⟨0, false, n3⟩ (by repeat' (first | exact .nil | refine .cons rfl ?_)) rfl ⟨by simp [hK0], hH3, hn3⟩
      clear hH3
      rintro ⟨_, nr0, n4⟩ H4 ⟨hnr0, hH4, hn4⟩
      simp only at hnr0 hH4 hn4
      dsimp only
      repeat' (first | refine zA ?_ | (refine zM ?_; intro _ _) | (apply Ws <;> intro hg))
      refine WC.loop (fun s : GQ => [(1, .int .i64 (p : Int)), (2, .int .i64 h), (3, .pointer (some ⟨n, 0, some 0⟩)), (7, .slice (some ⟨n + 1, 0, some 0⟩) xs.length (2 * xs.length + 1)), (8, .int .i64 ((K + 1 : Nat) : Int)), (9, .int .i64 (y : Int)), (10, .bool s.nr), (11, .int .i64 (s.q : Int))]) (fun _ => [])
        (fun s H => s.q ≤ xs.length ∧ (s.nr = true ↔ (K = 0 ∧ xs.length ∈ nbrs c xs.length y) ∨ ∃ a, a < s.q ∧ a ∈ nbrs c xs.length y ∧ 1 ≤ K ∧ b.getD a 0 = (K : Int)) ∧ hasH ((n + 1, .row 3 0 0 (ints zs)) :: T) s.n H ∧ n + 1 ≤ s.n) (fun s => xs.length - s.q) ⟨0, nr0, n4⟩ (by repeat' (first | exact .nil | refine .cons rfl ?_)) rfl
        ⟨Nat.zero_le _, by rw [hnr0]; exact ⟨.inl, fun h => h.resolve_right (fun ⟨a, ha, _⟩ => absurd ha (Nat.not_lt_zero _))⟩, hH4, hn4⟩ ?_
      clear hH4 hnr0 hn4
      rintro ⟨q, nr, n4⟩ H4 ⟨hq, hnr, hH4, hn4⟩
      simp only at hq hnr hH4 hn4
      dsimp only
      repeat' (first | refine zA ?_ | (refine zM ?_; intro _ _) | (apply Ws <;> intro hg))
      refine WC.condP rfl (fun hlt3 => ?_) (fun hlt3 => ?_)
      · have hq' : q < xs.length := by omega
        have hzq : 0 < zs.getD q 0 ∧ zs.getD q 0 = (K : Int) ↔ 1 ≤ K ∧ b.getD q 0 = (K : Int) := by
          rw [hz q hq']
          split
          · exact FV_eq (by omega)
          · exact FV_eq (Nat.le_refl _)
        have hnx : ∀ nr' : Bool, (nr' = true ↔ nr = true ∨ (q ∈ nbrs c xs.length y ∧ 1 ≤ K ∧ b.getD q 0 = (K : Int))) → (nr' = true ↔ (K = 0 ∧ xs.length ∈ nbrs c xs.length y) ∨ ∃ a, a < q + 1 ∧ a ∈ nbrs c xs.length y ∧ 1 ≤ K ∧ b.getD a 0 = (K : Int)) := by
          intro nr' h2
          rw [h2, hnr]
          constructor
          · rintro ((h3 | ⟨a, ha, h3⟩) | h3)
            · exact .inl h3
            · exact .inr ⟨a, by omega, h3⟩
            · exact .inr ⟨q, by omega, h3⟩
          · rintro (h3 | ⟨a, ha, h3⟩)
            · exact .inl (.inl h3)
            · rcases Nat.lt_or_ge a q with h4 | h4
              · exact .inl (.inr ⟨a, h4, h3⟩)
              · have : a = q := by omega
                subst this; exact .inr h3
        clear hnr
        cases nr with
        | true =>
          repeat' (first | refine zA ?_ | (refine zM ?_; intro _ _) | (apply Ws <;> intro hg))
          exact Ends.loop ⟨q + 1, true, n4⟩ (by simp only; omega) (by repeat' (first | exact .nil | refine .cons rfl ?_)) rfl ⟨hq', hnx true (by simp), hH4, hn4⟩
        | false =>
          repeat' (first | refine zA ?_ | (refine zM ?_; intro _ _) | (apply Ws <;> intro hg))
          refine WR.call (by first | exact gN | exact gS rfl) rfl rfl (besideR_fs hH4 h1 hcc hh.cr h36 hy' hq') ?_
          rintro _ H5 ⟨rfl, n5, hn5, hH5⟩
          repeat' (first | refine zA ?_ | (refine zM ?_; intro _ _) | (apply Ws <;> intro hg))
          · have hb : q ∈ nbrs c xs.length y := hg
            refine WR.op (by first | exact gN | exact gS rfl) rfl (OpV.loadI (b := n + 1) (e := 3) (xs := zs) rfl hH5 (.head _) (by omega)) ?_
            repeat' (first | refine zA ?_ | (refine zM ?_; intro _ _) | (apply Ws <;> intro hg))
            · have hp0 : 0 < zs.getD q 0 := hg
              refine WR.op (by first | exact gN | exact gS rfl) rfl (OpV.loadI (b := n + 1) (e := 3) (xs := zs) rfl hH5 (.head _) (by omega)) ?_
              repeat' (first | refine zA ?_ | (refine zM ?_; intro _ _) | (apply Ws <;> intro hg))
              refine WR.op (by first | exact gN | exact gS rfl) rfl (OpV.sub rfl rfl (by omega)) ?_
              repeat' (first | refine zA ?_ | (refine zM ?_; intro _ _) | (apply Ws <;> intro hg))
              refine Ends.loop ⟨q + 1, decide (zs.getD q 0 = ((K + 1 : Nat) : Int) - 1), n5⟩ (by simp only; omega) (by repeat' (first | exact .nil | refine .cons rfl ?_)) rfl ⟨hq', hnx _ ?_, hH5, by simp only; omega⟩
              simp only
              rw [decide_eq_true_iff]
              constructor
              · intro h2; exact .inr ⟨hb, hzq.1 ⟨hp0, by omega⟩⟩
              · rintro (h2 | ⟨_, h2⟩)
                · cases h2
                · have := (hzq.2 h2).2; omega
            · have hp0 : ¬ 0 < zs.getD q 0 := hg
              repeat' (first | refine zA ?_ | (refine zM ?_; intro _ _) | (apply Ws <;> intro hg))
              exact Ends.loop ⟨q + 1, false, n5⟩ (by simp only; omega) (by repeat' (first | exact .nil | refine .cons rfl ?_)) rfl ⟨hq', hnx false ⟨(by intro h2; cases h2), fun h2 => h2.elim id (fun h3 => absurd (hzq.2 h3.2).1 hp0)⟩, hH5, by simp only; omega⟩
          · have hb : ¬ q ∈ nbrs c xs.length y := hg
            repeat' (first | refine zA ?_ | (refine zM ?_; intro _ _) | (apply Ws <;> intro hg))
            exact Ends.loop ⟨q + 1, false, n5⟩ (by simp only; omega) (by repeat' (first | exact .nil | refine .cons rfl ?_)) rfl ⟨hq', hnx false ⟨(by intro h2; cases h2), fun h2 => h2.elim id (fun h3 => absurd h3.1 hb)⟩, hH5, by simp only; omega⟩
      have hqn : q = xs.length := by omega
      subst hqn
      have hnr2 : nr = true ↔ b.getD y 0 = ((K + 1 : Nat) : Int) := hnr.trans hni
      clear hnr hni
      cases nr with
      | true =>
        have hby := hnr2.1 rfl
        repeat' (first | refine zA ?_ | (refine zM ?_; intro _ _) | (apply Ws <;> intro hg))
        refine WR.storeI (by first | exact gN | exact gS rfl) hH4 rfl rfl .here (by omega) fun H5 hH5 => ?_
        repeat' (first | refine zA ?_ | (refine zM ?_; intro _ _) | (apply Ws <;> intro hg))
        refine Ends.loop ⟨y + 1, zs.set y ((K + 1 : Nat) : Int), n4⟩ (by simp only; omega) (by repeat' (first | exact .nil | refine .cons rfl ?_)) rfl ⟨hy', by simpa using hzl, fun a ha => ?_, hH5, hn4⟩
        simp only
        rw [getD_set (by omega)]
        by_cases h2 : a = y
        · subst h2
          rw [if_pos rfl, if_pos (Nat.lt_succ_self _), FV, if_pos (by omega), hby]
        · rw [if_neg h2, hz a ha]
          by_cases h3 : a < y
          · rw [if_pos h3, if_pos (by omega)]
          · rw [if_neg h3, if_neg (by omega)]
      | false =>
        have hby : ¬ b.getD y 0 = ((K + 1 : Nat) : Int) := fun h2 => by have := hnr2.2 h2; cases this
        repeat' (first | refine zA ?_ | (refine zM ?_; intro _ _) | (apply Ws <;> intro hg))
        refine Ends.loop ⟨y + 1, zs, n4⟩ (by simp only; omega) (by repeat' (first | exact .nil | refine .cons rfl ?_)) rfl ⟨hy', hzl, hstay ?_, hH4, hn4⟩
        rw [FV_pos] at hf
        unfold FV
        rw [if_neg (by omega), if_neg hf]
    have hyn : y = xs.length := by omega
    subst hyn
    repeat' (first | refine zA ?_ | (refine zM ?_; intro _ _) | (apply Ws <;> intro hg))
    refine Ends.loop ⟨K + 1, zs, n3⟩ (by simp only; omega) (by repeat' (first | exact .nil | refine .cons rfl ?_)) rfl ⟨hK', hzl, fun y hy => ?_, hH3, hn3⟩
    simp only
    rw [hz y hy, if_pos hy]
  have hKn : K = xs.length := by omega
  subst hKn
  repeat' (first | refine zA ?_ | (refine zM ?_; intro _ _) | (apply Ws <;> intro hg))
  refine WR.op (by first | exact gN | exact gS rfl) rfl (OpV.loadI (b := n + 1) (e := 3) (xs := zs) rfl hH3 (.head _) (by omega)) ?_
  rw [hz p hp]
  repeat' (first | refine zA ?_ | (refine zM ?_; intro _ _) | (apply Ws <;> intro hg))
  exact Ends.ret1 rfl ⟨rfl, n3, by omega, hback (Z := []) hH3.tail⟩
end Go.Proofs.Ytmogipomnjihcaa.Eb

namespace Go.Proofs.Ytmogipomnjihcaa.Eb
open Go Go.Abs Go.Low
set_option linter.unusedVariables false
set_option linter.unusedSimpArgs false
attribute [local irreducible] gOK WS WC WR WD Ends FS YS OpV seqK blockK loopK midK retK rdK asgK rangeEnd sat Cell

theorem best_ge {c r : Nat} {hs b : List Int} (hh : HS c r hs) (hc6 : c ≤ 6) (hl : Lowest c r hs r b) {p : Nat} (hp : p ≤ r) : hs.getD p 0 ≤ b.getD p 0 :=
  reach_top ((hl.out.done hh (Nat.le_refl _) (best_le hh hc6 hl hp) hp).1 (Int.le_refl _))

theorem getD_eq {l : List Int} {k : Nat} (h : k < l.length) : l.getD k 0 = l[k] := by rw [List.getD_eq_getElem?_getD, List.getElem?_eq_getElem h]; rfl

theorem HourR_fs {M : HL} {n : Nat} {H : Heap} (hH : hasH M n H) {r c : Int} {v vw : Value} {xs ws : List Int} (hS : Sl M 1 v (ints xs)) (hx : xs.length ≤ 1000) (hSw : Sl M 1 vw (ints ws)) (hw : ws.length ≤ 1000) (p : Int)
    (hex : hourE r c xs ws p = 0 → ∃ best, Lowest c.toNat xs.length (padded xs) xs.length best) :
    FS C 30 [.agg #[.int .i64 r, .int .i64 c, v], vw, .int .i64 p] H (fun e H' => ∃ n', n ≤ n' ∧ hasH M n' H' ∧ (hourE r c xs ws p ≠ 0 ∧ e = .tuple #[.int .i64 0, .int .i64 (hourE r c xs ws p)] ∨ hourE r c xs ws p = 0 ∧ HourR r c xs ws p.toNat e)) := by
  have h1 := hS.one_
  refine FS.intro (pf := pf30) rfl rfl rfl ?_
  repeat' (first | refine zA ?_ | (refine zM ?_; intro _ _) | (apply Ws <;> intro hg))
  rename_i H1 hH1
  have hSv : Sl ((n, .row 27 0 0 [.int .i64 r, .int .i64 c, v]) :: M) 1 v (ints xs) := hS.cons
  have hSq : Sl ((n, .row 27 0 0 [.int .i64 r, .int .i64 c, v]) :: M) 1 vw (ints ws) := hSw.cons
  have hmT : (n, Ch.row 27 0 0 [.int .i64 r, .int .i64 c, v]) ∈ (n, Ch.row 27 0 0 [.int .i64 r, .int .i64 c, v]) :: M := .head _
  have hback : ∀ {n' : Nat} {H' : Heap}, hasH ((n, Ch.row 27 0 0 [.int .i64 r, .int .i64 c, v]) :: M) n' H' → hasH M n' H' := fun hq => hq.tail
  generalize (n, Ch.row 27 0 0 [.int .i64 r, .int .i64 c, v]) :: M = T at hSv hSq hmT hH1 hback
  refine WR.call (by first | exact gN | exact gS rfl) rfl rfl (CheckR_fs hH1 hSv hx) ?_
  rintro _ H2 ⟨rfl, n2, hn2, hH2⟩
  clear hH1
  repeat' (first | refine zA ?_ | (refine zM ?_; intro _ _) | (apply Ws <;> intro hg))
  refine WC.condP rfl (fun hne => ?_) (fun hne => ?_)
  · have hl : hourE r c xs ws p = checkE r c xs := by simp only [hourE, ne_eq, hne, not_false_eq_true, if_true]
    repeat' (first | refine zA ?_ | (refine zM ?_; intro _ _) | (apply Ws <;> intro hg))
    exact Ends.ret2 rfl rfl ⟨n2, by omega, hback hH2, .inl ⟨by rw [hl]; exact hne, by rw [hl]⟩⟩
  have hck : checkE r c xs = 0 := Decidable.not_not.1 hne
  obtain ⟨hh, hc6, hr36⟩ := HS_of hck
  obtain ⟨g1, g2, g3, g4, g5, g6⟩ := check_ok hck
  repeat' (first | refine zA ?_ | (refine zM ?_; intro _ _) | (apply Ws <;> intro hg))
  refine WR.op (by first | exact gN | exact gS rfl) rfl (OpV.lenSI rfl hSq) ?_
  repeat' (first | refine zA ?_ | (refine zM ?_; intro _ _) | (apply Ws <;> intro hg))
  refine WC.condP rfl (fun h24 => ?_) (fun h24 => ?_)
  · have hl : hourE r c xs ws p = 3 := by simp only [hourE, hck, ne_eq, not_true_eq_false, if_false, h24, if_true]
    repeat' (first | refine zA ?_ | (refine zM ?_; intro _ _) | (apply Ws <;> intro hg))
    exact Ends.ret2 rfl rfl ⟨n2, by omega, hback hH2, .inl ⟨by rw [hl]; decide, by rw [hl]⟩⟩
  repeat' (first | refine zA ?_ | (refine zM ?_; intro _ _) | (apply Ws <;> intro hg))
  refine WC.loop (fun k : Nat => [(1, vw), (2, .int .i64 p), (3, .pointer (some ⟨n, 0, some 0⟩)), (9, .int .i64 (k : Int))]) (fun _ => []) (fun k H' => hasH T n2 H' ∧ k ≤ ws.length ∧ ∀ j (h : j < ws.length), j < k → 0 ≤ ws[j] ∧ ws[j] ≤ 30) (fun k => ws.length - k) 0 (by repeat' (first | exact .nil | refine .cons rfl ?_)) rfl ⟨hH2, Nat.zero_le _, fun j _ h => absurd h (Nat.not_lt_zero _)⟩ ?_
  clear hH2
  rintro k H2 ⟨hH2, hk, hgood⟩
  repeat' (first | refine zA ?_ | (refine zM ?_; intro _ _) | (apply Ws <;> intro hg))
  refine WR.op (by first | exact gN | exact gS rfl) rfl (OpV.lenSI rfl hSq) ?_
  repeat' (first | refine zA ?_ | (refine zM ?_; intro _ _) | (apply Ws <;> intro hg))
  refine WC.condP rfl (fun hlt => ?_) (fun hlt => ?_)
  · have hk' : k < ws.length := by omega
    repeat' (first | refine zA ?_ | (refine zM ?_; intro _ _) | (apply Ws <;> intro hg))
    refine WR.idxSI (by first | exact gN | exact gS rfl) rfl rfl hSq rfl rfl hk' fun b o u hc => ?_
    repeat' (first | refine zA ?_ | (refine zM ?_; intro _ _) | (apply Ws <;> intro hg))
    refine WR.call (by first | exact gN | exact gS rfl) rfl rfl (in_fs _ _ _ _) ?_
    rintro _ _ ⟨rfl, rfl⟩
    repeat' (first | refine zA ?_ | (refine zM ?_; intro _ _) | (apply Ws <;> intro hg))
    refine WC.condP rfl (fun h => ?_) (fun h => ?_)
    · have hl : hourE r c xs ws p = 1 := by
        simp only [hourE, hck, ne_eq, not_true_eq_false, if_false, h24]
        rw [if_pos (fun hall => h (hall _ (List.getElem_mem hk')))]
      repeat' (first | refine zA ?_ | (refine zM ?_; intro _ _) | (apply Ws <;> intro hg))
      exact Ends.ret2 rfl rfl ⟨n2, by omega, hback hH2, .inl ⟨by rw [hl]; decide, by rw [hl]⟩⟩
    · repeat' (first | refine zA ?_ | (refine zM ?_; intro _ _) | (apply Ws <;> intro hg))
      refine Ends.loop (k + 1) (by omega) (by repeat' (first | exact .nil | refine .cons rfl ?_)) rfl ⟨hH2, hk', fun j hj hjk => ?_⟩
      rcases Nat.lt_or_ge j k with h2 | h2
      · exact hgood j hj h2
      · have : j = k := by omega
        subst this; exact Decidable.not_not.1 h
  have hall : ∀ x ∈ ws, 0 ≤ x ∧ x ≤ 30 := by
    intro x hxm
    obtain ⟨j, hj, rfl⟩ := List.mem_iff_getElem.1 hxm
    exact hgood j hj (by omega)
  clear hgood hlt hk
  repeat' (first | refine zA ?_ | (refine zM ?_; intro _ _) | (apply Ws <;> intro hg))
  refine WR.call (by first | exact gN | exact gS rfl) rfl rfl (place_fs hH2 hSv hx p) ?_
  rintro _ H3 ⟨rfl, n3, hn3, hH3⟩
  clear hH2
  repeat' (first | refine zA ?_ | (refine zM ?_; intro _ _) | (apply Ws <;> intro hg))
  refine WC.condP rfl (fun hp => ?_) (fun hp => ?_)
  · have hl : hourE r c xs ws p = 2 := by
      simp only [hourE, hck, ne_eq, not_true_eq_false, if_false, h24]; rw [if_neg (fun h => h hall), if_pos hp]
    repeat' (first | refine zA ?_ | (refine zM ?_; intro _ _) | (apply Ws <;> intro hg))
    exact Ends.ret2 rfl rfl ⟨n3, by omega, hback hH3, .inl ⟨by rw [hl]; decide, by rw [hl]⟩⟩
  have hl : hourE r c xs ws p = 0 := by simp only [hourE, hck, ne_eq, not_true_eq_false, if_false, h24]; rw [if_neg (fun h => h hall), if_neg hp]
  have hp' := Decidable.not_not.1 hp
  obtain ⟨q, rfl⟩ : ∃ q : Nat, p = q := ⟨p.toNat, by omega⟩
  obtain ⟨best, hb⟩ := hex hl
  have hbge := best_ge hh hc6 hb (p := q) (by omega)
  obtain ⟨rows, rfl⟩ : ∃ rows : Nat, r = rows := ⟨r.toNat, by omega⟩
  obtain ⟨c, rfl⟩ : ∃ c' : Nat, c = c' := ⟨c.toNat, by omega⟩
  rw [Int.toNat_natCast] at hh hc6 hb
  have hrc : xs.length = rows * c := by
    have : ((rows * c : Nat) : Int) = (rows : Int) * (c : Int) := by simp
    omega
  repeat' (first | refine zA ?_ | (refine zM ?_; intro _ _) | (apply Ws <;> intro hg))
  refine WC.loop (fun s : Nat × Nat => [(1, vw), (2, .int .i64 (q : Int)), (3, .pointer (some ⟨n, 0, some 0⟩)), (10, .int .i64 (s.1 : Int))]) (fun _ => []) (fun s H' => hasH T s.2 H' ∧ n ≤ s.2 ∧ s.1 ≤ ws.length ∧ ∀ j, j < s.1 → deep best (padded xs) (ws.getD j 0) q ≠ 0) (fun s => ws.length - s.1) (0, n3) (by repeat' (first | exact .nil | refine .cons rfl ?_)) rfl ⟨hH3, by simp only; omega, Nat.zero_le _, fun j h => absurd h (Nat.not_lt_zero _)⟩ ?_
  clear hH3
  rintro ⟨k, n4⟩ H4 ⟨hH4, hn4, hk, hno⟩
  simp only at hH4 hn4 hk hno
  dsimp only
  repeat' (first | refine zA ?_ | (refine zM ?_; intro _ _) | (apply Ws <;> intro hg))
  refine WR.op (by first | exact gN | exact gS rfl) rfl (OpV.lenSI rfl hSq) ?_
  repeat' (first | refine zA ?_ | (refine zM ?_; intro _ _) | (apply Ws <;> intro hg))
  refine WC.condP rfl (fun hlt => ?_) (fun hlt => ?_)
  · have hk' : k < ws.length := by omega
    have hwk := hall ws[k] (List.getElem_mem hk')
    have hdn : 0 ≤ deep best (padded xs) ws[k] q := by unfold deep; omega
    repeat' (first | refine zA ?_ | (refine zM ?_; intro _ _) | (apply Ws <;> intro hg))
    refine WR.idxSI (by first | exact gN | exact gS rfl) rfl rfl hSq rfl rfl hk' fun b o u hc => ?_
    repeat' (first | refine zA ?_ | (refine zM ?_; intro _ _) | (apply Ws <;> intro hg))
    refine WR.call (by first | exact gN | exact gS rfl) rfl rfl (depthR_fs hH4 hSv hh hc6 ⟨by omega, by omega⟩ hrc (by omega) hb hwk) ?_
    rintro _ H5 ⟨rfl, n5, hn5, hH5⟩
    repeat' (first | refine zA ?_ | (refine zM ?_; intro _ _) | (apply Ws <;> intro hg))
    refine WC.condP rfl (fun h0 => ?_) (fun h0 => ?_)
    · repeat' (first | refine zA ?_ | (refine zM ?_; intro _ _) | (apply Ws <;> intro hg))
      refine Ends.ret2 rfl rfl ⟨n5, by omega, hback hH5, .inr ⟨hl, ⟨best, hb, .inl ⟨k, hk', ?_, hno, rfl⟩⟩⟩⟩
      rw [getD_eq hk', Int.toNat_natCast]; omega
    · repeat' (first | refine zA ?_ | (refine zM ?_; intro _ _) | (apply Ws <;> intro hg))
      refine Ends.loop (k + 1, n5) (by simp only; omega) (by repeat' (first | exact .nil | refine .cons rfl ?_)) rfl ⟨hH5, by simp only; omega, hk', fun j hj => ?_⟩
      rcases Nat.lt_or_ge j k with h2 | h2
      · exact hno j h2
      · have : j = k := by simp only at hj; omega
        subst this
        rw [getD_eq hk']; omega
  have hkn : k = ws.length := by omega
  subst hkn
  repeat' (first | refine zA ?_ | (refine zM ?_; intro _ _) | (apply Ws <;> intro hg))
  exact Ends.ret2 rfl rfl ⟨n4, by omega, hback hH4, .inr ⟨hl, ⟨best, hb, .inr ⟨hno, rfl⟩⟩⟩⟩

theorem large_fs {M : HL} {n : Nat} {H : Heap} (hH : hasH M n H) {v : Value} {xs : List Int} (hS : Sl M 1 v (ints xs)) : FS C 15 [v] H (fun e H' => e = .bool (decide ((60 : Int) < xs.length)) ∧ H' = H) := by
  refine FS.intro (pf := pf15) rfl rfl rfl ?_
  repeat' (first | refine zA ?_ | (refine zM ?_; intro _ _) | (apply Ws <;> intro hg))
  refine WR.op (by first | exact gN | exact gS rfl) rfl (OpV.lenSI rfl hS) ?_
  repeat' (first | refine zA ?_ | (refine zM ?_; intro _ _) | (apply Ws <;> intro hg))
  exact Ends.ret1 rfl ⟨rfl, rfl⟩

theorem EbbHours_fs {M : HL} {n : Nat} {H : Heap} (hH : hasH M n H) {r c p : Int} {v vw : Value} {xs ws : List Int} (hS : Sl M 1 v (ints xs)) (hSw : Sl M 1 vw (ints ws)) :
    FS C 4 [.agg #[.int .i64 r, .int .i64 c, v], vw, .int .i64 p] H (fun e H' => e = .bool true) := by
  have h1 := hS.one_
  refine FS.intro (pf := pf4) rfl rfl rfl ?_
  repeat' (first | refine zA ?_ | (refine zM ?_; intro _ _) | (apply Ws <;> intro hg))
  rename_i H1 hH1
  have hSv : Sl ((n, .row 24 0 0 [.int .i64 r, .int .i64 c, v]) :: M) 1 v (ints xs) := hS.cons
  have hSq : Sl ((n, .row 24 0 0 [.int .i64 r, .int .i64 c, v]) :: M) 1 vw (ints ws) := hSw.cons
  refine WR.call (by first | exact gN | exact gS rfl) rfl rfl (large_fs hH1 hSv) ?_
  rintro _ _ ⟨rfl, rfl⟩
  repeat' (first | refine zA ?_ | (refine zM ?_; intro _ _) | (apply Ws <;> intro hg))
  · refine WR.call (by first | exact gN | exact gS rfl) rfl rfl (FS.works (C := C) (R := fun v H' => v = .bool true) rfl) ?_
    rintro _ _ rfl
    repeat' (first | refine zA ?_ | (refine zM ?_; intro _ _) | (apply Ws <;> intro hg))
    exact Ends.ret1 rfl rfl
  have hx : xs.length ≤ 1000 := by omega
  refine WR.call (by first | exact gN | exact gS rfl) rfl rfl (large_fs hH1 hSq) ?_
  rintro _ _ ⟨rfl, rfl⟩
  repeat' (first | refine zA ?_ | (refine zM ?_; intro _ _) | (apply Ws <;> intro hg))
  refine WC.condP rfl (fun hlw => ?_) (fun hlw => ?_)
  · repeat' (first | refine zA ?_ | (refine zM ?_; intro _ _) | (apply Ws <;> intro hg))
    refine WR.call (by first | exact gN | exact gS rfl) rfl rfl (FS.works (C := C) (R := fun v H' => v = .bool true) rfl) ?_
    rintro _ _ rfl
    repeat' (first | refine zA ?_ | (refine zM ?_; intro _ _) | (apply Ws <;> intro hg))
    exact Ends.ret1 rfl rfl
  have hw : ws.length ≤ 1000 := by omega
  repeat' (first | refine zA ?_ | (refine zM ?_; intro _ _) | (apply Ws <;> intro hg))
  refine WR.call (by first | exact gN | exact gS rfl) rfl rfl (Hour_fs hH1 hSv hx hSq hw p) ?_
  rintro e1 H2 ⟨n2, hn2, hH2, hres⟩
  have hex : hourE r c xs ws p = 0 → ∃ best, Lowest c.toNat xs.length (padded xs) xs.length best := by
    intro h0
    rcases hres with ⟨hne, _⟩ | ⟨_, best, hb, _⟩
    · exact absurd h0 hne
    · exact ⟨best, hb⟩
  have hE : ∃ a e : Int, e1 = .tuple #[.int .i64 a, .int .i64 e] := by
    rcases hres with ⟨_, rfl⟩ | ⟨_, best, hb, ⟨k, _, _, _, rfl⟩ | ⟨_, rfl⟩⟩
    · exact ⟨_, _, rfl⟩
    · exact ⟨_, _, rfl⟩
    · exact ⟨_, _, rfl⟩
  obtain ⟨a, e, rfl⟩ := hE
  repeat' (first | refine zA ?_ | (refine zM ?_; intro _ _) | (apply Ws <;> intro hg))
  refine WR.call (by first | exact gN | exact gS rfl) rfl rfl (HourR_fs hH2 hSv hx hSq hw p hex) ?_
  rintro e2 H3 ⟨n3, hn3, hH3, hres2⟩
  have hsame : e2 = .tuple #[.int .i64 a, .int .i64 e] := by
    rcases hres with ⟨hne, h2⟩ | ⟨h0, best, hb, h2⟩
    · rcases hres2 with ⟨_, h3⟩ | ⟨h3, _⟩
      · rw [h3]; exact h2.symm
      · exact absurd h3 hne
    · rcases hres2 with ⟨h3, _⟩ | ⟨_, best', hb', h3⟩
      · exact absurd h0 h3
      · have hck : checkE r c xs = 0 := by
          by_cases hc : checkE r c xs = 0
          · exact hc
          · rw [hourE, if_pos hc] at h0; exact absurd h0 hc
        have := hb'.unique (HS_of hck).1 (Nat.le_refl _) hb
        subst this
        rcases h2 with ⟨k, hk, k0, kn, h2⟩ | ⟨hn, h2⟩
        · rcases h3 with ⟨j, hj, j0, jn, h3⟩ | ⟨hn, h3⟩
          · have : j = k := by
              rcases Nat.lt_trichotomy j k with h | h | h
              · exact absurd j0 (kn j h)
              · exact h
              · exact absurd k0 (jn k h)
            subst this; rw [h3]; exact h2.symm
          · exact absurd k0 (hn k hk)
        · rcases h3 with ⟨j, hj, j0, jn, h3⟩ | ⟨_, h3⟩
          · exact absurd j0 (hn j hj)
          · rw [h3]; exact h2.symm
  subst hsame
  repeat' (first | refine zA ?_ | (refine zM ?_; intro _ _) | (apply Ws <;> intro hg))
  · refine WR.call (by first | exact gN | exact gS rfl) rfl rfl (FS.works (C := C) (R := fun v H' => v = .bool true) rfl) ?_
    rintro _ _ rfl
    repeat' (first | refine zA ?_ | (refine zM ?_; intro _ _) | (apply Ws <;> intro hg))
    exact Ends.ret1 rfl rfl
  all_goals exact absurd rfl (by assumption)

end Go.Proofs.Ytmogipomnjihcaa.Eb

namespace Go.Proofs.Ytmogipomnjihcaa.Eb
open Go Go.Abs Go.Low
set_option linter.unusedVariables false
set_option linter.unusedSimpArgs false
attribute [local irreducible] gOK WS WC WR WD Ends FS YS OpV seqK blockK loopK midK retK rdK asgK rangeEnd sat Cell

theorem nbrs_sorted {c rows r p : Nat} (hc : 1 ≤ c ∧ c ≤ 6) (hr : r = rows * c) (hp : p < r) : (nbrs c r p).Pairwise (· < ·) := by
  unfold nbrs
  rw [if_neg (by omega)]
  have hm := Nat.mod_lt p (show 0 < c by omega)
  have hn : p % c < c - 1 → p + 1 < r := by
    subst hr
    rcases cases6 hc with rfl | rfl | rfl | rfl | rfl | rfl <;> omega
  by_cases h1 : c ≤ p <;> by_cases h2 : 0 < p % c <;> by_cases h3 : p % c < c - 1 <;> simp only [h1, h2, h3, if_true, if_false, List.nil_append, List.cons_append, List.pairwise_cons, List.mem_cons, List.not_mem_nil, or_false, List.Pairwise.nil, and_true, forall_eq_or_imp, forall_eq] <;>
    first
      | omega
      | (simp; omega)
      | simp

theorem find_le {P : Nat → Bool} {z : Nat} : ∀ {l : List Nat}, l.Pairwise (· < ·) → l.find? P = some z → ∀ x ∈ l, P x = true → z ≤ x
  | [], _, h, _, _, _ => by cases h
  | a :: l, hs, h, x, hx, hP => by
    rw [List.find?_cons] at h
    rw [List.pairwise_cons] at hs
    cases hPa : P a with
    | true =>
      rw [hPa] at h; cases h
      rcases List.mem_cons.1 hx with rfl | h2
      · exact Nat.le_refl _
      · exact Nat.le_of_lt (hs.1 x h2)
    | false =>
      rw [hPa] at h
      rcases List.mem_cons.1 hx with rfl | h2
      · rw [hPa] at hP; cases hP
      · exact find_le hs.2 h x h2 hP

theorem Dist.unique {c r : Nat} {hs : List Int} {h : Int} (hh : HS c r hs) {b b' : List Int} (D : Dist c r hs h b) (D' : Dist c r hs h b') : b = b' := by
  apply list_ext37 D.len D'.len
  intro y hy
  rcases D.rng y hy with h1 | ⟨k, h1, h2, _, _⟩ <;> rcases D'.rng y hy with h3 | ⟨j, h3, h4, _, _⟩
  · rw [h1, h3]
  · exact absurd h1 (D.min hh h4).1
  · exact absurd h3 (D'.min hh h2).1
  · have := (D.min hh h4).2
    have := (D'.min hh h2).2
    omega

theorem WayR.unique {r c : Int} {xs : List Int} {p : Nat} {l l' : List Nat} (hck : checkE r c xs = 0) (h : WayR r c xs p l) (h' : WayR r c xs p l') : l = l' := by
  obtain ⟨best, b, hl, hd, rfl⟩ := h
  obtain ⟨best', b', hl', hd', rfl⟩ := h'
  have hh := (HS_of hck).1
  have := hl.unique hh (Nat.le_refl _) hl'
  subst this
  rw [hd.unique hh hd']

theorem sorted_ext {l m : List Nat} (hl : l.Pairwise (· < ·)) (hm : m.Pairwise (· < ·)) (h : ∀ y, y ∈ l ↔ y ∈ m) : l = m := by
  induction l generalizing m with
  | nil =>
    cases m with
    | nil => rfl
    | cons a m => have := (h a).2 (by simp); cases this
  | cons a l ih =>
    cases m with
    | nil => have := (h a).1 (by simp); cases this
    | cons b m =>
      rw [List.pairwise_cons] at hl hm
      have hab : a = b := by
        have h1 := (h a).1 (by simp)
        have h2 := (h b).2 (by simp)
        rcases List.mem_cons.1 h1 with h1 | h1
        · exact h1
        · rcases List.mem_cons.1 h2 with h2 | h2
          · exact h2.symm
          · have := hm.1 a h1; have := hl.1 b h2; omega
      subst hab
      congr 1
      refine ih hl.2 hm.2 (fun y => ?_)
      have h1 := h y
      constructor
      · intro hy
        rcases List.mem_cons.1 (h1.1 (by simp [hy])) with h2 | h2
        · subst h2; have := hl.1 y hy; omega
        · exact h2
      · intro hy
        rcases List.mem_cons.1 (h1.2 (by simp [hy])) with h2 | h2
        · subst h2; have := hm.1 y hy; omega
        · exact h2

theorem BasR.unique {r c : Int} {xs : List Int} {p : Nat} {l l' : List Nat} (hck : checkE r c xs = 0) (h : BasR r c xs p l) (h' : BasR r c xs p l') : l = l' := by
  obtain ⟨best, hl, hs, hm⟩ := h
  obtain ⟨best', hl', hs', hm'⟩ := h'
  have := hl.unique (HS_of hck).1 (Nat.le_refl _) hl'
  subst this
  exact sorted_ext hs hs' (fun y => (hm y).trans (hm' y).symm)

structure RV where
  j : Nat
  y : Nat
  v : Value
  Mx : HL
  n : Nat
  l : List Nat

set_option maxHeartbeats 1000000 in
theorem WayRef_fs {M : HL} {n : Nat} {H : Heap} (hH : hasH M n H) {r c : Int} {v : Value} {xs : List Int} (hS : Sl M 1 v (ints xs)) (hx : xs.length ≤ 1000) (p : Int)
    (hex : placeE r c xs p = 0 → ∃ best b, Lowest c.toNat xs.length (padded xs) xs.length best ∧ Dist c.toNat xs.length (padded xs) (best.getD p.toNat 0) b) :
    FS C 32 [.agg #[.int .i64 r, .int .i64 c, v], .int .i64 p] H (fun e H' => ∃ n', n ≤ n' ∧ (placeE r c xs p ≠ 0 ∧ e = .tuple #[.slice none 0 0, .int .i64 (placeE r c xs p)] ∧ hasH M n' H' ∨
      placeE r c xs p = 0 ∧ ∃ v' Mx l, e = .tuple #[v', .int .i64 0] ∧ Own 3 1 v' (nodes l) Mx ∧ hasH (Mx ++ M) n' H' ∧ WayR r c xs p.toNat l)) := by
  have h1 := hS.one_
  refine FS.intro (pf := pf32) rfl rfl rfl ?_
  repeat' (first | refine zA ?_ | (refine zM ?_; intro _ _) | (apply Ws <;> intro hg))
  rename_i H1 hH1
  have hSv : Sl ((n, .row 27 0 0 [.int .i64 r, .int .i64 c, v]) :: M) 1 v (ints xs) := hS.cons
  have hmT : (n, Ch.row 27 0 0 [.int .i64 r, .int .i64 c, v]) ∈ (n, Ch.row 27 0 0 [.int .i64 r, .int .i64 c, v]) :: M := .head _
  have hback : ∀ {Z : HL} {n' : Nat} {H' : Heap}, hasH (Z ++ ((n, Ch.row 27 0 0 [.int .i64 r, .int .i64 c, v]) :: M)) n' H' → hasH (Z ++ M) n' H' := fun hq => hq.sub (.append (.refl _) (List.sublist_cons_self _ _))
  generalize (n, Ch.row 27 0 0 [.int .i64 r, .int .i64 c, v]) :: M = T at hSv hmT hH1 hback
  refine WR.call (by first | exact gN | exact gS rfl) rfl rfl (CheckR_fs hH1 hSv hx) ?_
  rintro _ H2 ⟨rfl, n2, hn2, hH2⟩
  clear hH1
  repeat' (first | refine zA ?_ | (refine zM ?_; intro _ _) | (apply Ws <;> intro hg))
  · have hck : checkE r c xs = 0 := hg
    refine WR.call (by first | exact gN | exact gS rfl) rfl rfl (place_fs hH2 hSv hx p) ?_
    rintro _ H3 ⟨rfl, n3, hn3, hH3⟩
    clear hH2
    repeat' (first | refine zA ?_ | (refine zM ?_; intro _ _) | (apply Ws <;> intro hg))
    refine WC.condP rfl (fun hpl => ?_) (fun hpl => ?_)
    · have hE : placeE r c xs p = 2 := by simp only [placeE, hck, ne_eq, not_true_eq_false, if_false, if_neg hpl]
      repeat' (first | refine zA ?_ | (refine zM ?_; intro _ _) | (apply Ws <;> intro hg))
      exact Ends.ret2 rfl rfl ⟨n3, by omega, .inl ⟨by rw [hE]; decide, by rw [hE], hback (Z := []) hH3⟩⟩
    have he0 : placeE r c xs p = 0 := by simp only [placeE, hck, ne_eq, not_true_eq_false, if_false, if_pos (Decidable.not_not.1 hpl)]
    obtain ⟨hh, hc6, hr36⟩ := HS_of hck
    obtain ⟨g1, g2, g3, g4, g5, g6⟩ := check_ok hck
    obtain ⟨best, b, hl, hD⟩ := hex he0
    obtain ⟨_, hp0, hp1⟩ := place_ok he0
    obtain ⟨q, rfl⟩ : ∃ q : Nat, p = q := ⟨p.toNat, by omega⟩
    have hq : q < xs.length := by omega
    rw [Int.toNat_natCast] at hD
    obtain ⟨k0, hk0, hkr, _⟩ := dist_at hh hc6 (Nat.le_of_lt hq) hl hD
    obtain ⟨rows, rfl⟩ : ∃ rows : Nat, r = rows := ⟨r.toNat, by omega⟩
    obtain ⟨c, rfl⟩ : ∃ c' : Nat, c = c' := ⟨c.toNat, by omega⟩
    rw [Int.toNat_natCast] at hh hc6 hl hD
    have hrc : xs.length = rows * c := by
      have : ((rows * c : Nat) : Int) = (rows : Int) * (c : Int) := by simp
      omega
    have hcc : 1 ≤ c ∧ c ≤ 6 := ⟨hh.c1, hc6⟩
    have hrows : 1 ≤ rows ∧ rows ≤ 6 := ⟨by omega, by omega⟩
    have hget : ∀ q, q < xs.length → (ints xs)[q]? = some (.int .i64 ((padded xs).getD q 0)) := fun q hq => by rw [padded_get (by omega)]; exact ints_get hq
    have hkp := dist_pos hh hD hq
    have hFq : FV b xs.length q = (k0 : Int) := by unfold FV; rw [if_pos (by omega), hk0]
    obtain ⟨j0, rfl⟩ : ∃ j, k0 = j + 1 := ⟨k0 - 1, by omega⟩
    repeat' (first | refine zA ?_ | (refine zM ?_; intro _ _) | (apply Ws <;> intro hg))
    refine WC.condP rfl (fun hne0 => ?_) (fun hne0 => ?_)
    · exact absurd hck hne0
    clear hne0
    repeat' (first | refine zA ?_ | (refine zM ?_; intro _ _) | (apply Ws <;> intro hg))
    refine WR.call (by first | exact gN | exact gS rfl) rfl rfl (sillR_fs hH3 hSv hh hc6 hrows hrc hq hl) ?_
    rintro _ H4 ⟨rfl, n4, hn4, hH4⟩
    repeat' (first | refine zA ?_ | (refine zM ?_; intro _ _) | (apply Ws <;> intro hg))
    refine WR.bldS (by first | exact gN | exact gS rfl) rfl hH4 (vs := [(0, .int .i64 (q : Int))]) rfl (cs := [.int .i64 (q : Int)]) (by rfl) rfl fun H5 hH5 => ?_
    have hH6 := hH5.asInp .here
    clear hH5 hH4 hH3
    have hmT1 : (n, Ch.row 27 0 0 [.int .i64 (rows : Int), .int .i64 (c : Int), v]) ∈ (n4, Ch.inp 3 0 0 [.int .i64 (q : Int)]) :: T := .tail _ hmT
    repeat' (first | refine zA ?_ | (refine zM ?_; intro _ _) | (apply Ws <;> intro hg))
    refine WR.call (by first | exact gN | exact gS rfl) rfl rfl (stepsR_fs hH6 hSv.cons hh hc6 hrows hrc hq hD) ?_
    rintro _ H7 ⟨rfl, n7, hn7, hH7⟩
    rw [hFq]
    repeat' (first | refine zA ?_ | (refine zM ?_; intro _ _) | (apply Ws <;> intro hg))
    refine WC.loop (fun s : RV => [(1, .int .i64 (s.y : Int)), (2, .pointer (some ⟨n, 0, some 0⟩)), (7, .int .i64 (best.getD q 0)), (8, s.v), (9, .int .i64 ((s.j + 1 : Nat) : Int))]) (fun _ => [])
      (fun s H => s.y < xs.length ∧ b.getD s.y 0 = ((s.j + 1 : Nat) : Int) ∧ s.j + 1 ≤ xs.length ∧ s.l ++ wayL c xs.length b s.j (nextN c xs.length b s.y) = wayL c xs.length b (j0 + 1) q ∧ Own 3 1 s.v (nodes s.l) s.Mx ∧ hasH (s.Mx ++ T) s.n H ∧ n2 ≤ s.n)
      (fun s => s.j) ⟨j0, q, _, [(n4, .inp 3 0 0 [.int .i64 (q : Int)])], n7, [q]⟩ (by repeat' (first | exact .nil | refine .cons rfl ?_)) rfl ⟨hq, hk0, by simp only; omega, rfl, Own.full (e := 3) (sz := 1) (cs := [.int .i64 (q : Int)]) rfl rfl, hH7, by simp only; omega⟩ ?_
    clear hH7 hH6 hmT1
    rintro ⟨j, y, v8, Mx, n8, l⟩ H8 ⟨hy, hb, hjx, hway, hO, hH8, hn8⟩
    simp only at hy hb hjx hway hO hH8 hn8
    dsimp only
    have hll : l.length + j = j0 + 1 := by have := congrArg List.length hway; rw [List.length_append, wayL_len, wayL_len] at this; exact this
    repeat' (first | refine zA ?_ | (refine zM ?_; intro _ _) | (apply Ws <;> intro hg))
    refine WC.condP rfl (fun hlt => ?_) (fun hlt => ?_)
    · have hlt9 : (1 : Int) < ((j + 1 : Nat) : Int) := hlt
      clear hlt
      obtain ⟨j, rfl⟩ : ∃ j', j = j' + 1 := by
        cases j with
        | zero => exact absurd hlt9 (by simp)
        | succ j' => exact ⟨j', rfl⟩
      obtain ⟨u1, u2, u3, u4, u5⟩ := next_ok hh hc6 hD (Nat.le_of_lt hy) hb (by omega)
      have hsrt := nbrs_sorted hcc hrc hy
      have hleast : ∀ z ∈ nbrs c xs.length y, b.getD z 0 = ((j + 1 : Nat) : Int) → nextN c xs.length b y ≤ z := by
        intro z hz hzb
        have h2 := (u4 z hz).1 hzb
        cases hf : (nbrs c xs.length y).find? (fun y' => decide (b.getD y' 0 < b.getD y 0)) with
        | none => rw [List.find?_eq_none] at hf; have := hf z hz; rw [decide_eq_true h2] at this; exact absurd rfl this
        | some w =>
          have h3 := find_le hsrt hf z hz (decide_eq_true h2)
          rw [nextN, hf]; exact h3
      generalize hnx : nextN c xs.length b y = nx at u1 u2 u3 hleast hway
      have hnxr : nx < xs.length := by
        rcases Nat.lt_or_ge nx xs.length with h2 | h2
        · exact h2
        · have : nx = xs.length := by omega
          rw [this, hD.root] at u3; omega
      have hnxh : (padded xs).getD nx 0 ≤ best.getD q 0 := (hD.pred hh (Nat.le_of_lt hnxr) u3 (by omega)).1
      have hnx1 := dist_pos hh hD hnxr
      repeat' (first | refine zA ?_ | (refine zM ?_; intro _ _) | (apply Ws <;> intro hg))
      refine WC.loop (fun s : Nat × Nat => [(1, .int .i64 (y : Int)), (2, .pointer (some ⟨n, 0, some 0⟩)), (7, .int .i64 (best.getD q 0)), (8, v8), (9, .int .i64 ((j + 1 + 1 : Nat) : Int)), (10, .int .i64 (s.1 : Int))]) (fun _ => [])
        (fun s H => s.1 ≤ nx ∧ hasH (Mx ++ T) s.2 H ∧ n2 ≤ s.2) (fun s => nx - s.1) (0, n8) (by repeat' (first | exact .nil | refine .cons rfl ?_)) rfl ⟨Nat.zero_le _, hH8, hn8⟩ ?_
      clear hH8 hn8
      rintro ⟨z, n9⟩ H9 ⟨hz, hH9, hn9⟩
      simp only at hz hH9 hn9
      dsimp only
      have hzr : z < xs.length := by omega
      have hmX : (n, Ch.row 27 0 0 [.int .i64 (rows : Int), .int .i64 (c : Int), v]) ∈ Mx ++ T := List.mem_append_right _ hmT
      have hSvX : Sl (Mx ++ T) 1 v (ints xs) := hSv.mono (fun q hq => List.mem_append_right _ hq)
      repeat' (first | refine zA ?_ | (refine zM ?_; intro _ _) | (apply Ws <;> intro hg))
      refine WR.call (by first | exact gN | exact gS rfl) rfl rfl (besideR_fs hH9 h1 hcc hh.cr hh.r36 hy hzr) ?_
      rintro _ H10 ⟨rfl, n10, hn10, hH10⟩
      repeat' (first | refine zA ?_ | (refine zM ?_; intro _ _) | (apply Ws <;> intro hg))
      · have hzn : z ≠ nx := fun e => hg (e ▸ u1)
        exact Ends.loop (z + 1, n10) (by simp only; omega) (by repeat' (first | exact .nil | refine .cons rfl ?_)) rfl ⟨by simp only; omega, hH10, by simp only; omega⟩
      have hzm : z ∈ nbrs c xs.length y := Decidable.not_not.1 hg
      refine WR.idxSl (by first | exact gN | exact gS rfl) rfl rfl hSvX rfl rfl (hget z hzr) fun _ _ _ hc1 => ?_
      repeat' (first | refine zA ?_ | (refine zM ?_; intro _ _) | (apply Ws <;> intro hg))
      · have hzn : z ≠ nx := fun e => by subst e; omega
        exact Ends.loop (z + 1, n10) (by simp only; omega) (by repeat' (first | exact .nil | refine .cons rfl ?_)) rfl ⟨by simp only; omega, hH10, by simp only; omega⟩
      have hzh : ¬ best.getD q 0 < (padded xs).getD z 0 := hg
      refine WR.call (by first | exact gN | exact gS rfl) rfl rfl (stepsR_fs hH10 hSvX hh hc6 hrows hrc hzr hD) ?_
      rintro _ H11 ⟨rfl, n11, hn11, hH11⟩
      have hFz := FV_eq (b := b) (K := xs.length) (J := j + 1) (y := z) (by omega)
      repeat' (first | refine zA ?_ | (refine zM ?_; intro _ _) | (apply Ws <;> intro hg))
      refine WR.op (by first | exact gN | exact gS rfl) rfl (OpV.sub rfl rfl (by omega)) ?_
      repeat' (first | refine zA ?_ | (refine zM ?_; intro _ _) | (apply Ws <;> intro hg))
      refine WC.condP rfl (fun hst => ?_) (fun hst => ?_)
      · have hzn : z ≠ nx := by
          intro e
          subst e
          have := (hFz.2 ⟨by omega, u3⟩).2
          omega
        repeat' (first | refine zA ?_ | (refine zM ?_; intro _ _) | (apply Ws <;> intro hg))
        exact Ends.loop (z + 1, n11) (by simp only; omega) (by repeat' (first | exact .nil | refine .cons rfl ?_)) rfl ⟨by simp only; omega, hH11, by simp only; omega⟩
      have hzv : FV b xs.length z = ((j + 1 : Nat) : Int) := by omega
      have hzb := (hFz.1 ⟨by rw [hzv]; omega, hzv⟩).2
      have hzx : z = nx := Nat.le_antisymm hz (hleast z hzm hzb)
      subst hzx
      repeat' (first | refine zA ?_ | (refine zM ?_; intro _ _) | (apply Ws <;> intro hg))
      refine WR.append1F [] Mx T rfl rfl rfl rfl hO hH11 (new := [.int .i64 (z : Int)]) (by rfl) rfl rfl (Nat.le_refl _) (by omega) (by simp; omega) fun v3 Mx3 n12 H12 hO3 hH12 hn12 => ?_
      simp only [List.nil_append] at hH12
      repeat' (first | refine zA ?_ | (refine zM ?_; intro _ _) | (apply Ws <;> intro hg))
      refine WR.op (by first | exact gN | exact gS rfl) rfl (OpV.sub' (c := ((j + 1 : Nat) : Int)) rfl rfl (by omega) (by omega)) ?_
      repeat' (first | refine zA ?_ | (refine zM ?_; intro _ _) | (apply Ws <;> intro hg))
      refine Ends.loop ⟨j, z, v3, Mx3, n12, l ++ [z]⟩ (by simp only; omega) (by repeat' (first | exact .nil | refine .cons rfl ?_)) rfl ⟨hzr, hzb, by simp only; omega, ?_, by simpa using hO3, hH12, by simp only; omega⟩
      simp only [List.append_assoc]
      exact hway
    · have hj0 : j = 0 := by
        cases j with
        | zero => rfl
        | succ j' => exact absurd (show (1 : Int) < ((j' + 1 + 1 : Nat) : Int) by omega) hlt
      subst hj0
      repeat' (first | refine zA ?_ | (refine zM ?_; intro _ _) | (apply Ws <;> intro hg))
      refine Ends.ret2 rfl rfl ⟨n8, by omega, .inr ⟨he0, v8, Mx, l, rfl, hO, hback hH8, ⟨best, b, by rw [Int.toNat_natCast]; exact hl, by rw [Int.toNat_natCast, Int.toNat_natCast]; exact hD, ?_⟩⟩⟩
      rw [Int.toNat_natCast, Int.toNat_natCast, hk0, Int.toNat_natCast, ← hway]
      simp [wayL]
  · have hck : ¬ checkE r c xs = 0 := hg
    have hE : placeE r c xs p = checkE r c xs := by simp [placeE, hck]
    repeat' (first | refine zA ?_ | (refine zM ?_; intro _ _) | (apply Ws <;> intro hg))
    refine WC.condP rfl (fun hne => ?_) (fun hne => ?_)
    · repeat' (first | refine zA ?_ | (refine zM ?_; intro _ _) | (apply Ws <;> intro hg))
      exact Ends.ret2 rfl rfl ⟨n2, by omega, .inl ⟨by rw [hE]; exact hck, by rw [hE], hback (Z := []) hH2⟩⟩
    · exact absurd hck hne
end Go.Proofs.Ytmogipomnjihcaa.Eb

namespace Go.Abs
open Go
theorem holdsN_at {H : Heap} {i : Nat} {a : Addr} {k : Nat} {l : List Value} (h : H.readN a k = some l) (hs : sameL l l = true) : holds H ⟨i, a, some k, .agg l.toArray⟩ = true := by
  simp only [holds, h]; exact hs
end Go.Abs
namespace Go.Proofs.Ytmogipomnjihcaa.Eb
open Go Go.Abs Go.Low
set_option linter.unusedVariables false
set_option linter.unusedSimpArgs false
attribute [local irreducible] gOK WS WC WR WD Ends FS YS OpV seqK blockK loopK midK retK rdK asgK rangeEnd sat Cell

set_option maxHeartbeats 1000000 in
theorem BasinRef_fs {M : HL} {n : Nat} {H : Heap} (hH : hasH M n H) {r c : Int} {v : Value} {xs : List Int} (hS : Sl M 1 v (ints xs)) (hx : xs.length ≤ 1000) (p : Int)
    (hex : placeE r c xs p = 0 → ∃ best, Lowest c.toNat xs.length (padded xs) xs.length best) :
    FS C 34 [.agg #[.int .i64 r, .int .i64 c, v], .int .i64 p] H (fun e H' => ∃ n', n ≤ n' ∧ (placeE r c xs p ≠ 0 ∧ e = .tuple #[.slice none 0 0, .int .i64 (placeE r c xs p)] ∧ hasH M n' H' ∨
      placeE r c xs p = 0 ∧ ∃ v' Mx l, e = .tuple #[v', .int .i64 0] ∧ Own 3 1 v' (nodes l) Mx ∧ hasH (Mx ++ M) n' H' ∧ BasR r c xs p.toNat l)) := by
  have h1 := hS.one_
  refine FS.intro (pf := pf34) rfl rfl rfl ?_
  repeat' (first | refine zA ?_ | (refine zM ?_; intro _ _) | (apply Ws <;> intro hg))
  rename_i H1 hH1
  have hSv : Sl ((n, .row 27 0 0 [.int .i64 r, .int .i64 c, v]) :: M) 1 v (ints xs) := hS.cons
  have hmT : (n, Ch.row 27 0 0 [.int .i64 r, .int .i64 c, v]) ∈ (n, Ch.row 27 0 0 [.int .i64 r, .int .i64 c, v]) :: M := .head _
  have hback : ∀ {Z : HL} {n' : Nat} {H' : Heap}, hasH (Z ++ ((n, Ch.row 27 0 0 [.int .i64 r, .int .i64 c, v]) :: M)) n' H' → hasH (Z ++ M) n' H' := fun hq => hq.sub (.append (.refl _) (List.sublist_cons_self _ _))
  generalize (n, Ch.row 27 0 0 [.int .i64 r, .int .i64 c, v]) :: M = T at hSv hmT hH1 hback
  refine WR.call (by first | exact gN | exact gS rfl) rfl rfl (CheckR_fs hH1 hSv hx) ?_
  rintro _ H2 ⟨rfl, n2, hn2, hH2⟩
  clear hH1
  repeat' (first | refine zA ?_ | (refine zM ?_; intro _ _) | (apply Ws <;> intro hg))
  · have hck : checkE r c xs = 0 := hg
    refine WR.call (by first | exact gN | exact gS rfl) rfl rfl (place_fs hH2 hSv hx p) ?_
    rintro _ H3 ⟨rfl, n3, hn3, hH3⟩
    clear hH2
    repeat' (first | refine zA ?_ | (refine zM ?_; intro _ _) | (apply Ws <;> intro hg))
    refine WC.condP rfl (fun hpl => ?_) (fun hpl => ?_)
    · have hE : placeE r c xs p = 2 := by simp only [placeE, hck, ne_eq, not_true_eq_false, if_false, if_neg hpl]
      repeat' (first | refine zA ?_ | (refine zM ?_; intro _ _) | (apply Ws <;> intro hg))
      exact Ends.ret2 rfl rfl ⟨n3, by omega, .inl ⟨by rw [hE]; decide, by rw [hE], hback (Z := []) hH3⟩⟩
    have he0 : placeE r c xs p = 0 := by simp only [placeE, hck, ne_eq, not_true_eq_false, if_false, if_pos (Decidable.not_not.1 hpl)]
    obtain ⟨hh, hc6, hr36⟩ := HS_of hck
    obtain ⟨g1, g2, g3, g4, g5, g6⟩ := check_ok hck
    obtain ⟨best, hl⟩ := hex he0
    obtain ⟨_, hp0, hp1⟩ := place_ok he0
    obtain ⟨q, rfl⟩ : ∃ q : Nat, p = q := ⟨p.toNat, by omega⟩
    have hq : q < xs.length := by omega
    obtain ⟨rows, rfl⟩ : ∃ rows : Nat, r = rows := ⟨r.toNat, by omega⟩
    obtain ⟨c, rfl⟩ : ∃ c' : Nat, c = c' := ⟨c.toNat, by omega⟩
    rw [Int.toNat_natCast] at hh hc6 hl
    have hrc : xs.length = rows * c := by
      have : ((rows * c : Nat) : Int) = (rows : Int) * (c : Int) := by simp
      omega
    have hrows : 1 ≤ rows ∧ rows ≤ 6 := ⟨by omega, by omega⟩
    have hb30 := hl.bd q (by omega)
    repeat' (first | refine zA ?_ | (refine zM ?_; intro _ _) | (apply Ws <;> intro hg))
    refine WC.condP rfl (fun hne0 => ?_) (fun hne0 => ?_)
    · exact absurd hck hne0
    clear hne0
    repeat' (first | refine zA ?_ | (refine zM ?_; intro _ _) | (apply Ws <;> intro hg))
    refine WC.regionD ?_
    refine WD.loadN (by first | exact gN | exact gS rfl) rfl rfl (hH3.readN (k := 3) hmT (.row _ _ _ _) (Nat.zero_le _) (by simp)) ?_
    (repeat' (first | refine d1 rfl ?_ | refine d2 rfl ?_ | refine d3 rfl ?_))
    refine WD.loadN (by first | exact gN | exact gS rfl) rfl rfl (hH3.readN (k := 3) hmT (.row _ _ _ _) (Nat.zero_le _) (by simp)) ?_
    (repeat' (first | refine d1 rfl ?_ | refine d2 rfl ?_ | refine d3 rfl ?_))
    refine WD.call (by first | exact gN | exact gS rfl) rfl rfl (sillR_fs hH3 hSv hh hc6 hrows hrc hq hl) ?_
    rintro _ H4 ⟨rfl, n4, hn4, hH4⟩
    refine ⟨stands_cons (.inl rfl) (stands_cons (.inr (holdsN_at (hH4.readN (k := 3) hmT (.row _ _ _ _) (Nat.zero_le _) (by simp)) (by show sameL [Value.int .i64 (rows : Int), .int .i64 (c : Int), v] [.int .i64 (rows : Int), .int .i64 (c : Int), v] = true; simp [sameL, same_int, hSv.same]))) stands_nil'), ?_⟩
    refine WD.toWR rfl ?_
    refine WR.op (by first | exact gN | exact gS rfl) rfl (OpV.sub rfl rfl (by omega)) ?_
    refine WR.call (by first | exact gN | exact gS rfl) rfl rfl (reached_fs hH4 hSv hh hc6 hq (h := best.getD q 0 - 1)) ?_
    rintro vl H5 ⟨Mx, n5, l, hn5, hO, hH5, hll, hmem, hsrt⟩
    repeat' (first | refine zA ?_ | (refine zM ?_; intro _ _) | (apply Ws <;> intro hg))
    refine Ends.ret2 rfl rfl ⟨n5, by omega, .inr ⟨he0, vl, Mx, l, rfl, hO, hback hH5, ⟨best, by rw [Int.toNat_natCast]; exact hl, hsrt, fun y => ?_⟩⟩⟩
    rw [Int.toNat_natCast, Int.toNat_natCast]; exact hmem y
  · have hck : ¬ checkE r c xs = 0 := hg
    have hE : placeE r c xs p = checkE r c xs := by simp [placeE, hck]
    repeat' (first | refine zA ?_ | (refine zM ?_; intro _ _) | (apply Ws <;> intro hg))
    refine WC.condP rfl (fun hne => ?_) (fun hne => ?_)
    · repeat' (first | refine zA ?_ | (refine zM ?_; intro _ _) | (apply Ws <;> intro hg))
      exact Ends.ret2 rfl rfl ⟨n2, by omega, .inl ⟨by rw [hE]; exact hck, by rw [hE], hback (Z := []) hH2⟩⟩
    · exact absurd hck hne
end Go.Proofs.Ytmogipomnjihcaa.Eb

namespace Go.Proofs.Ytmogipomnjihcaa.Eb
open Go Go.Abs Go.Low
set_option linter.unusedVariables false
set_option linter.unusedSimpArgs false
attribute [local irreducible] gOK WS WC WR WD Ends FS YS OpV seqK blockK loopK midK retK rdK asgK rangeEnd sat Cell

def GoodP (c r : Nat) (hs : List Int) (pl : List Nat) (h : Int) (p : Nat) : Prop := r ∉ nbrs c r p ∧ ∀ q, q < r → q ∈ nbrs c r p → q ∉ pl → ¬ hs.getD q 0 < h

theorem bars_good {c r : Nat} {hs : List Int} {pl : List Nat} {h : Int} (hc1 : 1 ≤ c) (hcr : c ≤ r) (hpl : ∀ p ∈ pl, p < r) : Bars c r hs pl h ↔ ∀ p ∈ pl, GoodP c r hs pl h p := by
  constructor
  · intro hb p hp
    refine ⟨fun hm => (hb p hp r hm).1 rfl, fun q hq hm hn hlt => hn ((hb p hp q hm).2 hlt)⟩
  · intro hg p hp y hy
    have hyr := nbrs_le hc1 hcr (Nat.le_of_lt (hpl p hp)) hy
    obtain ⟨g1, g2⟩ := hg p hp
    have hne : y ≠ r := fun e => g1 (e ▸ hy)
    refine ⟨hne, fun hlt => Classical.byContradiction fun hn => g2 y (by omega) hy hn hlt⟩

structure Acc (k : Nat) (pl : List Nat) : Prop where
  lt : ∀ p ∈ pl, p < k
  sort : pl.Pairwise (· < ·)
  len : pl.length ≤ k

theorem Acc.push {k : Nat} {pl : List Nat} (h : Acc k pl) : Acc (k + 1) (pl ++ [k]) where
  lt p hp := by
    rcases List.mem_append.1 hp with h1 | h1
    · have := h.lt p h1; omega
    · rw [List.mem_singleton.1 h1]; omega
  sort := List.pairwise_append.2 ⟨h.sort, List.pairwise_singleton _ _, fun a ha b hb => by rw [List.mem_singleton.1 hb]; exact h.lt a ha⟩
  len := by rw [List.length_append, List.length_singleton]; have := h.len; omega

theorem Acc.skip {k : Nat} {pl : List Nat} (h : Acc k pl) : Acc (k + 1) pl := ⟨fun p hp => by have := h.lt p hp; omega, h.sort, by have := h.len; omega⟩

theorem nodesI (l : List Nat) : nodes l = ints (l.map fun (x : Nat) => (x : Int)) := by simp [nodes, ints]

theorem mem_castI {l : List Nat} {q : Nat} : ((q : Int) ∈ l.map fun (x : Nat) => (x : Int)) ↔ q ∈ l := by
  rw [List.mem_map]
  constructor
  · rintro ⟨x, hx, he⟩
    have : x = q := by omega
    exact this ▸ hx
  · exact fun h => ⟨q, h, rfl⟩

structure AV where
  k : Nat
  v : Value
  Mx : HL
  n : Nat
  pl : List Nat

set_option maxHeartbeats 2000000 in
theorem EbbBarred_fs {M : HL} {n : Nat} {H : Heap} (hH : hasH M n H) {a b set hg8 : Int} {hs : List Int} (hb : Bytes a b hs) (hhg : 0 ≤ hg8 ∧ hg8 ≤ 255) :
    FS C 9 [.agg (strand a b hs).toArray, .int .u64 set, .int .u8 hg8] H (fun e H' => e = .bool true) := by
  have hone := strand_one a b hs
  have hck := made_check (m := 6) (by omega) hb
  obtain ⟨hh, hc6, hr36⟩ := HS_of hck
  have hl1 : 1 ≤ (heightsOf 6 a b hs).length := hh.cr |> Nat.le_trans hh.c1
  refine FS.intro (pf := pf9) rfl rfl rfl ?_
  repeat' (first | refine zA ?_ | (refine zM ?_; intro _ _) | (apply Ws <;> intro hg))
  rename_i H1 hH1
  refine WR.op (by first | exact gN | exact gS rfl) rfl (OpV.loadAll (k := 38) rfl hH1 (.head _) (.row _ _ _ _) (by simp [strand, hb.len])) ?_
  refine WR.call (by first | exact gN | exact gS rfl) rfl rfl (made_fs hH1 (m := 6) (by omega) hb) ?_
  rintro _ H2 ⟨v, Mx, n2, rfl, hn2, hO, hH2⟩
  generalize hxs : heightsOf 6 a b hs = xs at hck hh hr36 hl1 hO
  have hsb := side_le (m := 6) (a := b) (by omega)
  obtain ⟨c, hcc⟩ : ∃ c : Nat, side 6 b = c := ⟨(side 6 b).toNat, by omega⟩
  rw [hcc] at hck hh hc6 ⊢
  rw [Int.toNat_natCast] at hh hc6
  have hv := (hO.sl M).one_
  have hSv := hO.sl ((n, .row 60 0 0 (strand a b hs)) :: M)
  repeat' (first | refine zA ?_ | (refine zM ?_; intro _ _) | (apply Ws <;> intro hg))
  rename_i H3 hH3
  refine WR.storeAll (by first | exact gN | exact gS rfl) hH3 rfl rfl (ls := [.int .i64 (side 6 a), .int .i64 (c : Int), v]) rfl rfl (by first | exact .here | exact .there .here | exact .there (.there .here) | exact .there (.there (.there .here)) | exact .there (.there (.there (.there .here))) | exact .there (.there (.there (.there (.there .here))))) (by (repeat' (first | exact all_nil | refine all_cons (by first | rfl | assumption) ?_))) (by rfl) fun H4 hH4 => ?_
  clear hH3 hH2 hH1
  have hSv2 : Sl ((n2, .row 24 0 0 [.int .i64 (side 6 a), .int .i64 (c : Int), v]) :: (Mx ++ ((n, .row 60 0 0 (strand a b hs)) :: M))) 1 v (ints xs) := hSv.cons
  have hmT : (n2, Ch.row 24 0 0 [.int .i64 (side 6 a), .int .i64 (c : Int), v]) ∈ (n2, Ch.row 24 0 0 [.int .i64 (side 6 a), .int .i64 (c : Int), v]) :: (Mx ++ ((n, .row 60 0 0 (strand a b hs)) :: M)) := .head _
  generalize (n2, Ch.row 24 0 0 [.int .i64 (side 6 a), .int .i64 (c : Int), v]) :: (Mx ++ ((n, .row 60 0 0 (strand a b hs)) :: M)) = T at hmT hSv2 hH4
  generalize side 6 a = rows at hck hmT ⊢
  clear hSv hO hone
  repeat' (first | refine zA ?_ | (refine zM ?_; intro _ _) | (apply Ws <;> intro hg))
  refine WR.op (by first | exact gN | exact gS rfl) rfl (OpV.lenSI rfl hSv2) ?_
  repeat' (first | refine zA ?_ | (refine zM ?_; intro _ _) | (apply Ws <;> intro hg))
  refine WR.op (by first | exact gN | exact gS rfl) rfl (OpV.conv u5 u3 rfl (c := hg8) (IntWalk.i64_in _ (by omega))) ?_
  obtain ⟨h, hhe⟩ : ∃ h, hg8 % 31 = h := ⟨_, rfl⟩
  have hh30 : 0 ≤ h ∧ h ≤ 30 := by omega
  refine WR.op (by first | exact gN | exact gS rfl) rfl (OpV.rem' (c := h) rfl rfl hhe (by omega) (by omega)) ?_
  clear hhe hhg
  repeat' (first | refine zA ?_ | (refine zM ?_; intro _ _) | (apply Ws <;> intro hg))
  -- the places
  refine WC.loop (fun s : AV => [(1, .int .u64 set), (7, .pointer (some ⟨n2, 0, some 0⟩)), (8, .int .i64 (xs.length : Int)), (9, .int .i64 h), (10, s.v), (28, .int .i64 (xs.length : Int)), (29, .int .i64 (s.k : Int))]) (fun _ => [])
    (fun s H => s.k ≤ xs.length ∧ Acc s.k s.pl ∧ Own 3 1 s.v (nodes s.pl) s.Mx ∧ hasH (s.Mx ++ T) s.n H)
    (fun s => xs.length - s.k) ⟨0, .slice none 0 0, [], n2 + 1, []⟩ (by repeat' (first | exact .nil | refine .cons rfl ?_)) rfl ⟨Nat.zero_le _, ⟨by simp, .nil, Nat.le_refl _⟩, .nil, hH4⟩ ?_
  clear hH4
  rintro ⟨k, vp, Mp, n5, pl⟩ H5 ⟨hk, hacc, hOp, hH5⟩
  simp only at hk hacc hOp hH5
  dsimp only
  repeat' (first | refine zA ?_ | (refine zM ?_; intro _ _) | (apply Ws <;> intro hg))
  refine WC.condP rfl (fun hlt => ?_) (fun hlt => ?_)
  · have hk' : k < xs.length := by omega
    have hal := hacc.len
    repeat' (first | refine zA ?_ | (refine zM ?_; intro _ _) | (apply Ws <;> intro hg))
    refine WR.op (by first | exact gN | exact gS rfl) rfl (OpV.shr rfl rfl (by omega) rfl) ?_
    refine WR.op (by first | exact gN | exact gS rfl) rfl (OpV.bits rfl rfl rfl rfl (.inl rfl) rfl) ?_
    repeat' (first | refine zA ?_ | (refine zM ?_; intro _ _) | (apply Ws <;> intro hg))
    refine WC.condP rfl (fun hbit => ?_) (fun hbit => ?_)
    · repeat' (first | refine zA ?_ | (refine zM ?_; intro _ _) | (apply Ws <;> intro hg))
      refine WR.append1F [] Mp _ rfl rfl rfl rfl hOp hH5 (new := [.int .i64 (k : Int)]) (by rfl) rfl rfl (Nat.le_refl _) (by omega) (by simp; omega) fun v3 Mx3 n9 H10 hO3 hH10 hn10 => ?_
      simp only [List.cons_append, List.nil_append] at hH10
      repeat' (first | refine zA ?_ | (refine zM ?_; intro _ _) | (apply Ws <;> intro hg))
      refine Ends.loop ⟨k + 1, v3, Mx3, n9, pl ++ [k]⟩ (by simp only; omega) (by repeat' (first | exact .nil | refine .cons rfl ?_)) rfl ⟨hk', hacc.push, ?_, hH10⟩
      simpa using hO3
    · repeat' (first | refine zA ?_ | (refine zM ?_; intro _ _) | (apply Ws <;> intro hg))
      exact Ends.loop ⟨k + 1, vp, Mp, n5, pl⟩ (by simp only; omega) (by repeat' (first | exact .nil | refine .cons rfl ?_)) rfl ⟨hk', hacc.skip, hOp, hH5⟩
  have hkn : k = xs.length := by omega
  subst hkn
  clear hlt hk
  have hal := hacc.len
  have hpl := hacc.lt
  have hSp : Sl (Mp ++ T) 1 vp (nodes pl) := hOp.sl T
  have hmU : (n2, Ch.row 24 0 0 [.int .i64 rows, .int .i64 (c : Int), v]) ∈ Mp ++ T := List.mem_append_right _ hmT
  have hSvU : Sl (Mp ++ T) 1 v (ints xs) := hSv2.mono (fun q hq => List.mem_append_right _ hq)
  generalize Mp ++ T = U at hSp hmU hSvU hH5
  have hnl : (nodes pl).length = pl.length := by simp
  clear hmT hSv2 hOp
  repeat' (first | refine zA ?_ | (refine zM ?_; intro _ _) | (apply Ws <;> intro hg))
  refine WR.op (by first | exact gN | exact gS rfl) rfl (OpV.lenS rfl hSp) ?_
  rw [hnl]
  repeat' (first | refine zA ?_ | (refine zM ?_; intro _ _) | (apply Ws <;> intro hg))
  -- what is wanted
  refine WC.loop (fun s : Nat × Int × Nat => [(7, .pointer (some ⟨n2, 0, some 0⟩)), (8, .int .i64 (xs.length : Int)), (9, .int .i64 h), (10, vp), (12, .int .i64 s.2.1), (42, vp), (43, .int .i64 (pl.length : Int)), (44, .int .i64 (s.1 : Int))]) (fun _ => [])
    (fun s H => s.1 ≤ pl.length ∧ hasH U s.2.2 H ∧ ((s.2.1 = 0 ∧ ∀ j, j < s.1 → ∀ p, pl[j]? = some p → GoodP c xs.length (padded xs) pl h p) ∨ (s.2.1 = 14 ∧ ∃ p ∈ pl, ¬ GoodP c xs.length (padded xs) pl h p)))
    (fun s => pl.length - s.1) (0, 0, n5) (by repeat' (first | exact .nil | refine .cons rfl ?_)) rfl ⟨Nat.zero_le _, hH5, .inl ⟨rfl, fun j hj => absurd hj (Nat.not_lt_zero _)⟩⟩ ?_
  clear hH5
  rintro ⟨k, want, n6⟩ H6 ⟨hk, hH6, hw⟩
  simp only at hk hH6 hw
  dsimp only
  repeat' (first | refine zA ?_ | (refine zM ?_; intro _ _) | (apply Ws <;> intro hg))
  refine WC.condP rfl (fun hlt => ?_) (fun hlt => ?_)
  · have hk' : k < pl.length := by omega
    obtain ⟨p, hp⟩ : ∃ p, pl[k]? = some p := ⟨pl[k], List.getElem?_eq_getElem hk'⟩
    have hpm := List.mem_of_getElem? hp
    have hpr := hpl p hpm
    repeat' (first | refine zA ?_ | (refine zM ?_; intro _ _) | (apply Ws <;> intro hg))
    refine WR.idxSl (by first | exact gN | exact gS rfl) rfl rfl hSp rfl rfl (c := .int .i64 (p : Int)) (by simp [hp]) fun b' o' u' hc => ?_
    repeat' (first | refine zA ?_ | (refine zM ?_; intro _ _) | (apply Ws <;> intro hg))
    refine WR.call (by first | exact gN | exact gS rfl) rfl rfl (beside_fs hH6 hSvU ⟨hh.c1, hc6⟩ hh.cr hr36 hpr (Nat.le_refl _)) ?_
    rintro _ H7 ⟨rfl, n7, hn7, hH7⟩
    repeat' (first | refine zA ?_ | (refine zM ?_; intro _ _) | (apply Ws <;> intro hg))
    -- the river
    obtain ⟨w1, hw1⟩ : ∃ w1, (if xs.length ∈ nbrs c xs.length p then 14 else want) = w1 := ⟨_, rfl⟩
    have hinv : (w1 = 0 ∧ (∀ j, j < k → ∀ p, pl[j]? = some p → GoodP c xs.length (padded xs) pl h p) ∧ xs.length ∉ nbrs c xs.length p) ∨ (w1 = 14 ∧ ∃ p ∈ pl, ¬ GoodP c xs.length (padded xs) pl h p) := by
      by_cases hm : xs.length ∈ nbrs c xs.length p
      · rw [if_pos hm] at hw1
        exact .inr ⟨hw1.symm, p, hpm, fun hg => hg.1 hm⟩
      · rw [if_neg hm] at hw1
        subst hw1
        rcases hw with ⟨h1, h2⟩ | h1
        · exact .inl ⟨h1, h2, hm⟩
        · exact .inr h1
    refine WC.join [(7, .pointer (some ⟨n2, 0, some 0⟩)), (8, .int .i64 (xs.length : Int)), (9, .int .i64 h), (10, vp), (12, .int .i64 w1), (14, .int .i64 (p : Int)), (42, vp), (43, .int .i64 (pl.length : Int)), (44, .int .i64 (k : Int))] [] (fun H => hasH U n7 H) ?_ ?_
    · refine WC.condP rfl (fun hm => ?_) (fun hm => ?_)
      · repeat' (first | refine zA ?_ | (refine zM ?_; intro _ _) | (apply Ws <;> intro hg))
        rw [if_pos hm] at hw1
        subst hw1
        exact Ends.mid (by repeat' (first | exact .nil | refine .cons rfl ?_)) rfl hH7
      · repeat' (first | refine zA ?_ | (refine zM ?_; intro _ _) | (apply Ws <;> intro hg))
        rw [if_neg hm] at hw1
        subst hw1
        exact Ends.mid (by repeat' (first | exact .nil | refine .cons rfl ?_)) rfl hH7
    clear hH7 hH6 hw hw1
    intro H7 hH7
    repeat' (first | refine zA ?_ | (refine zM ?_; intro _ _) | (apply Ws <;> intro hg))
    refine WC.loop (fun s : Nat × Int × Nat => [(7, .pointer (some ⟨n2, 0, some 0⟩)), (8, .int .i64 (xs.length : Int)), (9, .int .i64 h), (10, vp), (12, .int .i64 s.2.1), (14, .int .i64 (p : Int)), (42, vp), (43, .int .i64 (pl.length : Int)), (44, .int .i64 (k : Int)), (52, .int .i64 (xs.length : Int)), (53, .int .i64 (s.1 : Int))]) (fun _ => [])
      (fun s H => s.1 ≤ xs.length ∧ hasH U s.2.2 H ∧ ((s.2.1 = 0 ∧ (∀ j, j < k → ∀ p, pl[j]? = some p → GoodP c xs.length (padded xs) pl h p) ∧ xs.length ∉ nbrs c xs.length p ∧ ∀ q, q < s.1 → q ∈ nbrs c xs.length p → q ∉ pl → ¬ (padded xs).getD q 0 < h) ∨ (s.2.1 = 14 ∧ ∃ p ∈ pl, ¬ GoodP c xs.length (padded xs) pl h p)))
      (fun s => xs.length - s.1) (0, w1, n7) (by repeat' (first | exact .nil | refine .cons rfl ?_)) rfl ⟨Nat.zero_le _, hH7, ?_⟩ ?_
    · rcases hinv with ⟨h1, h2, h3⟩ | h1
      · exact .inl ⟨h1, h2, h3, fun q hq => absurd hq (Nat.not_lt_zero _)⟩
      · exact .inr h1
    clear hinv hH7
    rintro ⟨q, w2, n8⟩ H8 ⟨hq, hH8, hw⟩
    simp only at hq hH8 hw
    dsimp only
    repeat' (first | refine zA ?_ | (refine zM ?_; intro _ _) | (apply Ws <;> intro hg))
    refine WC.condP rfl (fun hlt2 => ?_) (fun hlt2 => ?_)
    · have hq' : q < xs.length := by omega
      obtain ⟨X, hX, hXp⟩ : ∃ X : Int, (ints xs)[q]? = some (.int .i64 X) ∧ (padded xs).getD q 0 = X := ⟨xs.getD q 0, ints_get hq', padded_get (by omega) q⟩
      have hnext : ∀ w3 : Int, (w3 = 14 ∧ q ∈ nbrs c xs.length p ∧ q ∉ pl ∧ X < h) ∨ (w3 = w2 ∧ ¬ (q ∈ nbrs c xs.length p ∧ q ∉ pl ∧ X < h)) →
          (w3 = 0 ∧ (∀ j, j < k → ∀ p, pl[j]? = some p → GoodP c xs.length (padded xs) pl h p) ∧ xs.length ∉ nbrs c xs.length p ∧ ∀ q', q' < q + 1 → q' ∈ nbrs c xs.length p → q' ∉ pl → ¬ (padded xs).getD q' 0 < h) ∨ (w3 = 14 ∧ ∃ p ∈ pl, ¬ GoodP c xs.length (padded xs) pl h p) := by
        rintro w3 (⟨rfl, h1, h2, h3⟩ | ⟨rfl, h1⟩)
        · exact .inr ⟨rfl, p, hpm, fun hg => hg.2 q hq' h1 h2 (by rw [hXp]; exact h3)⟩
        · rcases hw with ⟨g1, g2, g3, g4⟩ | g1
          · refine .inl ⟨g1, g2, g3, fun q' hq2 h2 h3 => ?_⟩
            rcases Nat.lt_or_ge q' q with h4 | h4
            · exact g4 q' h4 h2 h3
            · have : q' = q := by omega
              subst this
              rw [hXp]
              exact fun h5 => h1 ⟨h2, h3, h5⟩
          · exact .inr g1
      clear hw
      repeat' (first | refine zA ?_ | (refine zM ?_; intro _ _) | (apply Ws <;> intro hg))
      refine WR.call (by first | exact gN | exact gS rfl) rfl rfl (beside_fs hH8 hSvU ⟨hh.c1, hc6⟩ hh.cr hr36 hpr (Nat.le_of_lt hq')) ?_
      rintro _ H9 ⟨rfl, n9, hn9, hH9⟩
      repeat' (first | refine zA ?_ | (refine zM ?_; intro _ _) | (apply Ws <;> intro hg))
      · have hSpI : Sl U 1 vp (ints (pl.map fun (x : Nat) => (x : Int))) := by rw [← nodesI]; exact hSp
        refine WR.call (by first | exact gN | exact gS rfl) rfl rfl (Contains_fs hH9 hSpI (by simp; omega) (q : Int)) ?_
        rintro _ _ ⟨rfl, rfl⟩
        repeat' (first | refine zA ?_ | (refine zM ?_; intro _ _) | (apply Ws <;> intro hg))
        · -- not among the places
          refine WR.idxSl (by first | exact gN | exact gS rfl) rfl rfl hSvU rfl rfl hX fun _ _ _ hc2 => ?_
          repeat' (first | refine zA ?_ | (refine zM ?_; intro _ _) | (apply Ws <;> intro hg))
          refine WC.condP rfl (fun hlo => ?_) (fun hlo => ?_)
          · repeat' (first | refine zA ?_ | (refine zM ?_; intro _ _) | (apply Ws <;> intro hg))
            exact Ends.loop (q + 1, 14, n9) (by simp only; omega) (by repeat' (first | exact .nil | refine .cons rfl ?_)) rfl ⟨hq', hH9, hnext 14 (.inl ⟨rfl, by assumption, fun hm => hg (mem_castI.2 hm), hlo⟩)⟩
          · repeat' (first | refine zA ?_ | (refine zM ?_; intro _ _) | (apply Ws <;> intro hg))
            exact Ends.loop (q + 1, w2, n9) (by simp only; omega) (by repeat' (first | exact .nil | refine .cons rfl ?_)) rfl ⟨hq', hH9, hnext w2 (.inr ⟨rfl, fun hm => hlo hm.2.2⟩)⟩
        · repeat' (first | refine zA ?_ | (refine zM ?_; intro _ _) | (apply Ws <;> intro hg))
          exact Ends.loop (q + 1, w2, n9) (by simp only; omega) (by repeat' (first | exact .nil | refine .cons rfl ?_)) rfl ⟨hq', hH9, hnext w2 (.inr ⟨rfl, fun hm => hg (fun h5 => hm.2.1 (mem_castI.1 h5))⟩)⟩
      · exact Ends.loop (q + 1, w2, n9) (by simp only; omega) (by repeat' (first | exact .nil | refine .cons rfl ?_)) rfl ⟨hq', hH9, hnext w2 (.inr ⟨rfl, fun hm => hg hm.1⟩)⟩
    have hqn : q = xs.length := by omega
    subst hqn
    repeat' (first | refine zA ?_ | (refine zM ?_; intro _ _) | (apply Ws <;> intro hg))
    refine Ends.loop (k + 1, w2, n8) (by simp only; omega) (by repeat' (first | exact .nil | refine .cons rfl ?_)) rfl ⟨hk', hH8, ?_⟩
    rcases hw with ⟨g1, g2, g3, g4⟩ | g1
    · refine .inl ⟨g1, fun j hj p' hp' => ?_⟩
      rcases Nat.lt_or_ge j k with h4 | h4
      · exact g2 j h4 p' hp'
      · have : j = k := by simp only at hj; omega
        subst this
        rw [hp] at hp'; cases hp'
        exact ⟨g3, g4⟩
    · exact .inr g1
  have hkn : k = pl.length := by omega
  subst hkn
  clear hlt hk
  have hbars := bars_good (hs := padded xs) (h := h) hh.c1 hh.cr hpl
  have hwant : (want = 0 ∧ Bars c xs.length (padded xs) pl h) ∨ (want = 14 ∧ ¬ Bars c xs.length (padded xs) pl h) := by
    rcases hw with ⟨g1, g2⟩ | ⟨g1, p, hp, hn⟩
    · refine .inl ⟨g1, hbars.2 fun p hp => ?_⟩
      obtain ⟨j, hj, rfl⟩ := List.mem_iff_getElem.1 hp
      exact g2 j hj _ (List.getElem?_eq_getElem hj)
    · exact .inr ⟨g1, fun hb => hn (hbars.1 hb p hp)⟩
  clear hw
  repeat' (first | refine zA ?_ | (refine zM ?_; intro _ _) | (apply Ws <;> intro hg))
  refine WR.call (by first | exact gN | exact gS rfl) rfl rfl (Proves_fs hH6 hSvU hSp (by omega) hck hpl hacc.sort (by omega) hh30) ?_
  rintro _ H7 ⟨rfl, n7, hn7, hH7⟩
  rw [Int.toNat_natCast]
  rcases hwant with ⟨rfl, hB⟩ | ⟨rfl, hB⟩
  · rw [if_pos hB]
    repeat' (first | refine zA ?_ | (refine zM ?_; intro _ _) | (apply Ws <;> intro hg))
    refine WR.call (by first | exact gN | exact gS rfl) rfl rfl (Sills_fs hH7 hSvU (by omega)) ?_
    rintro _ H8 ⟨n8, hn8, ⟨hne, _⟩ | ⟨_, vs, Ms, bs, rfl, hOs, hH8, hls⟩⟩
    · exact absurd hck hne
    have hbl := hls.len
    have hlen : (bs.take xs.length).length = xs.length := by simp; omega
    have hSs : Sl (Ms ++ U) 1 vs (ints (bs.take xs.length)) := hOs.sl U
    have hSp2 : Sl (Ms ++ U) 1 vp (nodes pl) := hSp.mono (fun q hq => List.mem_append_right _ hq)
    have hhold := bars_hold hh hc6 (by rw [Int.toNat_natCast] at hls; exact hls) hpl hB hh30.2
    generalize Ms ++ U = V at hSs hSp2 hH8
    repeat' (first | refine zA ?_ | (refine zM ?_; intro _ _) | (apply Ws <;> intro hg))
    refine WR.op (by first | exact gN | exact gS rfl) rfl (OpV.lenSI rfl hSs) ?_
    rw [hlen]
    repeat' (first | refine zA ?_ | (refine zM ?_; intro _ _) | (apply Ws <;> intro hg))
    refine WC.condP rfl (fun hc => ?_) (fun hc => ?_)
    · exact absurd rfl hc
    repeat' (first | refine zA ?_ | (refine zM ?_; intro _ _) | (apply Ws <;> intro hg))
    refine WR.op (by first | exact gN | exact gS rfl) rfl (OpV.lenS rfl hSp2) ?_
    rw [hnl]
    repeat' (first | refine zA ?_ | (refine zM ?_; intro _ _) | (apply Ws <;> intro hg))
    refine WC.loop (fun k : Nat => [(9, .int .i64 h), (16, vs), (99, vp), (100, .int .i64 (pl.length : Int)), (101, .int .i64 (k : Int))]) (fun _ => []) (fun k H => k ≤ pl.length ∧ H = H8) (fun k => pl.length - k) 0 (by repeat' (first | exact .nil | refine .cons rfl ?_)) rfl ⟨Nat.zero_le _, rfl⟩ ?_
    rintro k _ ⟨hk, rfl⟩
    repeat' (first | refine zA ?_ | (refine zM ?_; intro _ _) | (apply Ws <;> intro hg))
    refine WC.condP rfl (fun hlt => ?_) (fun hlt => ?_)
    · have hk' : k < pl.length := by omega
      obtain ⟨p, hp⟩ : ∃ p, pl[k]? = some p := ⟨pl[k], List.getElem?_eq_getElem hk'⟩
      have hpr := hpl p (List.mem_of_getElem? hp)
      have hph := hhold p (List.mem_of_getElem? hp)
      have hget : (ints (bs.take xs.length))[p]? = some (.int .i64 (bs.getD p 0)) := by
        rw [← take_ints, List.getElem?_take_of_lt hpr]; exact ints_get (by omega)
      repeat' (first | refine zA ?_ | (refine zM ?_; intro _ _) | (apply Ws <;> intro hg))
      refine WR.idxSl (by first | exact gN | exact gS rfl) rfl rfl hSp2 rfl rfl (c := .int .i64 (p : Int)) (by simp [hp]) fun b' o' u' hc => ?_
      repeat' (first | refine zA ?_ | (refine zM ?_; intro _ _) | (apply Ws <;> intro hg))
      refine WR.idxSl (by first | exact gN | exact gS rfl) rfl rfl hSs rfl rfl hget fun b' o' u' hc => ?_
      repeat' (first | refine zA ?_ | (refine zM ?_; intro _ _) | (apply Ws <;> intro hg))
      refine WC.condP rfl (fun hlo => ?_) (fun hlo => ?_)
      · omega
      repeat' (first | refine zA ?_ | (refine zM ?_; intro _ _) | (apply Ws <;> intro hg))
      exact Ends.loop (k + 1) (by omega) (by repeat' (first | exact .nil | refine .cons rfl ?_)) rfl ⟨hk', rfl⟩
    repeat' (first | refine zA ?_ | (refine zM ?_; intro _ _) | (apply Ws <;> intro hg))
    refine WR.call (by first | exact gN | exact gS rfl) rfl rfl (FS.works (C := C) (R := fun v H' => v = .bool true) rfl) ?_
    rintro _ _ rfl
    repeat' (first | refine zA ?_ | (refine zM ?_; intro _ _) | (apply Ws <;> intro hg))
    exact Ends.ret1 rfl rfl
  · rw [if_neg hB]
    repeat' (first | refine zA ?_ | (refine zM ?_; intro _ _) | (apply Ws <;> intro hg))
    refine WR.call (by first | exact gN | exact gS rfl) rfl rfl (FS.works (C := C) (R := fun v H' => v = .bool true) rfl) ?_
    rintro _ _ rfl
    repeat' (first | refine zA ?_ | (refine zM ?_; intro _ _) | (apply Ws <;> intro hg))
    exact Ends.ret1 rfl rfl
end Go.Proofs.Ytmogipomnjihcaa.Eb

namespace Go.Proofs.Ytmogipomnjihcaa.Eb
open Go Go.Abs Go.Low
set_option linter.unusedVariables false
set_option linter.unusedSimpArgs false
attribute [local irreducible] gOK WS WC WR WD Ends FS YS OpV seqK blockK loopK midK retK rdK asgK rangeEnd sat Cell

/-- So many places are places, each greater than the one before it. -/
def OkP (m : Nat) (ps : List Int) (k : Nat) : Prop := ∀ i, i < k → 0 ≤ ps.getD i 0 ∧ ps.getD i 0 ≤ (m : Int) - 1 ∧ (0 < i → ps.getD (i - 1) 0 < ps.getD i 0)

theorem OkP.next {m : Nat} {ps : List Int} {k : Nat} (h : OkP m ps k) (h0 : 0 ≤ ps.getD k 0 ∧ ps.getD k 0 ≤ (m : Int) - 1) (h1 : 0 < k → ps.getD (k - 1) 0 < ps.getD k 0) : OkP m ps (k + 1) := by
  intro i hi
  rcases Nat.lt_or_ge i k with h2 | h2
  · exact h i h2
  · have : i = k := by omega
    subst this; exact ⟨h0.1, h0.2, h1⟩

def ProvesS (r c : Int) (xs ps : List Int) (h e : Int) : Prop :=
  (checkE r c xs ≠ 0 ∧ e = checkE r c xs) ∨
  (checkE r c xs = 0 ∧ ∃ k, k < ps.length ∧ OkP xs.length ps k ∧ ((¬ (0 ≤ ps.getD k 0 ∧ ps.getD k 0 ≤ (xs.length : Int) - 1) ∧ e = 2) ∨
    ((0 ≤ ps.getD k 0 ∧ ps.getD k 0 ≤ (xs.length : Int) - 1) ∧ 0 < k ∧ ps.getD k 0 ≤ ps.getD (k - 1) 0 ∧ e = 7))) ∨
  (checkE r c xs = 0 ∧ OkP xs.length ps ps.length ∧ ((¬ (0 ≤ h ∧ h ≤ 30) ∧ e = 1) ∨ ((0 ≤ h ∧ h ≤ 30) ∧
    ((Bars c.toNat xs.length (padded xs) (ps.map Int.toNat) h ∧ e = 0) ∨ (¬ Bars c.toNat xs.length (padded xs) (ps.map Int.toNat) h ∧ e = 14)))))

theorem ProvesS.unique {r c : Int} {xs ps : List Int} {h e e' : Int} (k : ProvesS r c xs ps h e) (k' : ProvesS r c xs ps h e') : e = e' := by
  rcases k with ⟨h0, rfl⟩ | ⟨h0, i, hi, hok, hc⟩ | ⟨h0, hok, hc⟩ <;> rcases k' with ⟨g0, rfl⟩ | ⟨g0, j, hj, gok, gc⟩ | ⟨g0, gok, gc⟩
  · rfl
  · exact absurd g0 h0
  · exact absurd g0 h0
  · exact absurd h0 g0
  · have hij : i = j := by
      rcases Nat.lt_trichotomy i j with h1 | h1 | h1
      · have := gok i h1
        rcases hc with ⟨h2, _⟩ | ⟨_, h2, h3, _⟩
        · exact absurd ⟨this.1, this.2.1⟩ h2
        · have := this.2.2 h2; omega
      · exact h1
      · have := hok j h1
        rcases gc with ⟨h2, _⟩ | ⟨_, h2, h3, _⟩
        · exact absurd ⟨this.1, this.2.1⟩ h2
        · have := this.2.2 h2; omega
    subst hij
    rcases hc with ⟨h2, rfl⟩ | ⟨h2, _, _, rfl⟩ <;> rcases gc with ⟨h3, rfl⟩ | ⟨h3, _, _, rfl⟩
    · rfl
    · exact absurd h3 h2
    · exact absurd h2 h3
    · rfl
  · have := gok i hi
    rcases hc with ⟨h2, _⟩ | ⟨_, h2, h3, _⟩
    · exact absurd ⟨this.1, this.2.1⟩ h2
    · have := this.2.2 h2; omega
  · exact absurd h0 g0
  · have := hok j hj
    rcases gc with ⟨h2, _⟩ | ⟨_, h2, h3, _⟩
    · exact absurd ⟨this.1, this.2.1⟩ h2
    · have := this.2.2 h2; omega
  · rcases hc with ⟨h2, rfl⟩ | ⟨h2, ⟨h3, rfl⟩ | ⟨h3, rfl⟩⟩ <;> rcases gc with ⟨g2, rfl⟩ | ⟨g2, ⟨g3, rfl⟩ | ⟨g3, rfl⟩⟩ <;>
      first | rfl | exact absurd g2 h2 | exact absurd h2 g2 | exact absurd h3 g3 | exact absurd g3 h3

theorem okp_nat {m : Nat} {ps : List Int} (h : OkP m ps ps.length) : ∀ p ∈ ps.map Int.toNat, p < m := by
  intro p hp
  obtain ⟨x, hx, rfl⟩ := List.mem_map.1 hp
  obtain ⟨i, hi, rfl⟩ := List.mem_iff_getElem.1 hx
  have := h i hi
  rw [getD_eq hi] at this
  omega

open Classical in
set_option maxHeartbeats 1000000 in
theorem ProvesG_fs {M : HL} {n : Nat} {H : Heap} (hH : hasH M n H) {r c : Int} {v vp : Value} {xs ps : List Int} {h : Int} (hS : Sl M 1 v (ints xs)) (hP : Sl M 1 vp (ints ps)) (hx : xs.length ≤ 1000) (hpl : ps.length ≤ 1000) :
    FS C 35 [.agg #[.int .i64 r, .int .i64 c, v], vp, .int .i64 h] H (fun e H' => ∃ a, e = .int .i64 a ∧ ProvesS r c xs ps h a ∧ ∃ n', n ≤ n' ∧ hasH M n' H') := by
  have h1 := hS.one_
  refine FS.intro (pf := pf35) rfl rfl rfl ?_
  repeat' (first | refine zA ?_ | (refine zM ?_; intro _ _) | (apply Ws <;> intro hg))
  refine WR.call (by first | exact gN | exact gS rfl) rfl rfl (lay_fs (by assumption) hS.cons hx) ?_
  rintro _ H2 ⟨n2, hn2, ⟨hne, rfl, hH2⟩ | ⟨hck, bg, rfl, hH2⟩⟩
  · repeat' (first | refine zA ?_ | (refine zM ?_; intro _ _) | (apply Ws <;> intro hg))
    refine WC.condP rfl (fun h0 => ?_) (fun h0 => ?_)
    · repeat' (first | refine zA ?_ | (refine zM ?_; intro _ _) | (apply Ws <;> intro hg))
      exact Ends.ret1 rfl ⟨_, rfl, .inl ⟨hne, rfl⟩, n2, by omega, hH2.tail⟩
    · exact absurd hne h0
  obtain ⟨hh, hc6, hr36⟩ := HS_of hck
  repeat' (first | refine zA ?_ | (refine zM ?_; intro _ _) | (apply Ws <;> intro hg))
  rename_i H3 hH3
  refine WR.op (by first | exact gN | exact gS rfl) rfl (OpV.lenSI rfl hP) ?_
  repeat' (first | refine zA ?_ | (refine zM ?_; intro _ _) | (apply Ws <;> intro hg))
  refine WC.loop (fun k : Nat => [(1, vp), (2, .int .i64 h), (7, .pointer (some ⟨bg, 0, some 0⟩)), (9, .pointer (some ⟨n2, 0, some 0⟩)), (20, vp), (21, .int .i64 (ps.length : Int)), (22, .int .i64 (k : Int))]) (fun _ => [])
    (fun k H => k ≤ ps.length ∧ OkP xs.length ps k ∧ ∃ ms : List Bool, ms.length = 37 ∧ (∀ q, q < 37 → ms.getD q false = decide (q ∈ (ps.take k).map Int.toNat)) ∧
      hasH ((n2, .row 97 0 0 (bools ms)) :: (bg, .row 99 0 0 (gcells c.toNat xs.length (padded xs))) :: (n, .row 24 0 0 [.int .i64 r, .int .i64 c, v]) :: M) (n2 + 1) H)
    (fun k => ps.length - k) 0 (by repeat' (first | exact .nil | refine .cons rfl ?_)) rfl ⟨Nat.zero_le _, fun i hi => absurd hi (Nat.not_lt_zero _), List.replicate 37 false, rfl, fun q hq => ?_, hH3⟩ ?_
  · rw [List.getD_eq_getElem?_getD, List.getElem?_replicate, if_pos hq]; simp
  clear hH3 hH2
  rintro k H4 ⟨hk, hok, ms, hml, hms, hH4⟩
  have hP4 : Sl ((n2, .row 97 0 0 (bools ms)) :: (bg, .row 99 0 0 (gcells c.toNat xs.length (padded xs))) :: (n, .row 24 0 0 [.int .i64 r, .int .i64 c, v]) :: M) 1 vp (ints ps) := hP.cons.cons.cons
  repeat' (first | refine zA ?_ | (refine zM ?_; intro _ _) | (apply Ws <;> intro hg))
  refine WC.condP rfl (fun hlt => ?_) (fun hlt => ?_)
  · have hk' : k < ps.length := by omega
    have hpk : ps[k] = ps.getD k 0 := (getD_eq hk').symm
    repeat' (first | refine zA ?_ | (refine zM ?_; intro _ _) | (apply Ws <;> intro hg))
    refine WR.idxSl (by first | exact gN | exact gS rfl) rfl rfl hP4 rfl rfl (c := .int .i64 (ps.getD k 0)) (ints_get hk') fun b' o' u' hc => ?_
    repeat' (first | refine zA ?_ | (refine zM ?_; intro _ _) | (apply Ws <;> intro hg))
    refine WR.call (by first | exact gN | exact gS rfl) rfl rfl (isPlace_fs hH4 (.tail _ (.head _)) hr36 (ps.getD k 0)) ?_
    rintro _ _ ⟨rfl, rfl⟩
    repeat' (first | refine zA ?_ | (refine zM ?_; intro _ _) | (apply Ws <;> intro hg))
    refine WC.condP rfl (fun hq => ?_) (fun hq => ?_)
    · repeat' (first | refine zA ?_ | (refine zM ?_; intro _ _) | (apply Ws <;> intro hg))
      exact Ends.ret1 rfl ⟨_, rfl, .inr (.inl ⟨hck, k, hk', hok, .inl ⟨hq, rfl⟩⟩), n2 + 1, by omega, hH4.tail.tail.tail⟩
    have hq' := Decidable.not_not.1 hq
    obtain ⟨p, hp⟩ : ∃ p : Nat, ps.getD k 0 = p := ⟨(ps.getD k 0).toNat, by omega⟩
    have hpr : p < xs.length := by omega
    have hnext : ∀ q, q < 37 → (ms.set p true).getD q false = decide (q ∈ (ps.take (k + 1)).map Int.toNat) := by
      intro q hq
      rw [List.take_succ_eq_append_getElem hk', hpk, hp, List.map_append, List.map_cons, List.map_nil, Int.toNat_natCast, List.getD_eq_getElem?_getD, List.getElem?_set]
      by_cases hpq : p = q
      · subst hpq; rw [if_pos rfl, if_pos (by omega)]; simp
      · rw [if_neg hpq, ← List.getD_eq_getElem?_getD, hms q hq]
        refine decide_eq_decide.2 ?_
        rw [List.mem_append, List.mem_singleton]
        exact ⟨.inl, fun h2 => h2.resolve_right (Ne.symm hpq)⟩
    clear hq
    repeat' (first | refine zA ?_ | (refine zM ?_; intro _ _) | (apply Ws <;> intro hg))
    · have hk0 : 0 < k := by omega
      refine WR.op (by first | exact gN | exact gS rfl) rfl (OpV.sub' (c := ((k - 1 : Nat) : Int)) rfl rfl (by omega) (by omega)) ?_
      refine WR.idxSl (by first | exact gN | exact gS rfl) rfl rfl hP4 rfl rfl (c := .int .i64 (ps.getD (k - 1) 0)) (ints_get (by omega)) fun b' o' u' hc => ?_
      repeat' (first | refine zA ?_ | (refine zM ?_; intro _ _) | (apply Ws <;> intro hg))
      refine WC.condP rfl (fun hq2 => ?_) (fun hq2 => ?_)
      · repeat' (first | refine zA ?_ | (refine zM ?_; intro _ _) | (apply Ws <;> intro hg))
        exact Ends.ret1 rfl ⟨_, rfl, .inr (.inl ⟨hck, k, hk', hok, .inr ⟨hq', hk0, hq2, rfl⟩⟩), n2 + 1, by omega, hH4.tail.tail.tail⟩
      have hok2 := hok.next hq' (fun _ => by omega)
      rw [hp]
      repeat' (first | refine zA ?_ | (refine zM ?_; intro _ _) | (apply Ws <;> intro hg))
      refine WR.storeB (by first | exact gN | exact gS rfl) hH4 rfl rfl .here (by omega) fun H7 hH7 => ?_
      repeat' (first | refine zA ?_ | (refine zM ?_; intro _ _) | (apply Ws <;> intro hg))
      exact Ends.loop (k + 1) (by omega) (by repeat' (first | exact .nil | refine .cons rfl ?_)) rfl ⟨hk', hok2, _, by rw [List.length_set]; exact hml, hnext, hH7⟩
    · have hok2 := hok.next hq' (fun h2 => by omega)
      rw [hp]
      repeat' (first | refine zA ?_ | (refine zM ?_; intro _ _) | (apply Ws <;> intro hg))
      refine WR.storeB (by first | exact gN | exact gS rfl) hH4 rfl rfl .here (by omega) fun H7 hH7 => ?_
      repeat' (first | refine zA ?_ | (refine zM ?_; intro _ _) | (apply Ws <;> intro hg))
      exact Ends.loop (k + 1) (by omega) (by repeat' (first | exact .nil | refine .cons rfl ?_)) rfl ⟨hk', hok2, _, by rw [List.length_set]; exact hml, hnext, hH7⟩
  · have hkn : k = ps.length := by omega
    subst hkn
    rw [List.take_length] at hms
    have hps := okp_nat hok
    repeat' (first | refine zA ?_ | (refine zM ?_; intro _ _) | (apply Ws <;> intro hg))
    refine WR.call (by first | exact gN | exact gS rfl) rfl rfl (isHeight_fs _ _) ?_
    rintro _ _ ⟨rfl, rfl⟩
    repeat' (first | refine zA ?_ | (refine zM ?_; intro _ _) | (apply Ws <;> intro hg))
    refine WC.condP rfl (fun hq => ?_) (fun hq => ?_)
    · repeat' (first | refine zA ?_ | (refine zM ?_; intro _ _) | (apply Ws <;> intro hg))
      exact Ends.ret1 rfl ⟨_, rfl, .inr (.inr ⟨hck, hok, .inl ⟨hq, rfl⟩⟩), n2 + 1, by omega, hH4.tail.tail.tail⟩
    repeat' (first | refine zA ?_ | (refine zM ?_; intro _ _) | (apply Ws <;> intro hg))
    have hin : ∀ p ∈ marked ms 37, p < xs.length := by
      intro p hp
      rw [mem_marked] at hp
      rw [hms p hp.1] at hp
      exact hps p (of_decide_eq_true hp.2)
    refine WR.call (by first | exact gN | exact gS rfl) rfl rfl (isBarrier_fs hH4 (.tail _ (.head _)) (.head _) hml hh hc6 hin) ?_
    rintro _ H8 ⟨rfl, n8, hn8, hH8⟩
    have hbi := barsM_iff hh hps hms (h := h)
    repeat' (first | refine zA ?_ | (refine zM ?_; intro _ _) | (apply Ws <;> intro hg))
    refine WC.condP rfl (fun hb => ?_) (fun hb => ?_)
    · repeat' (first | refine zA ?_ | (refine zM ?_; intro _ _) | (apply Ws <;> intro hg))
      exact Ends.ret1 rfl ⟨_, rfl, .inr (.inr ⟨hck, hok, .inr ⟨Decidable.not_not.1 hq, .inr ⟨fun hbb => hb (hbi.2 hbb), rfl⟩⟩⟩), n8, by omega, hH8.tail.tail.tail⟩
    · repeat' (first | refine zA ?_ | (refine zM ?_; intro _ _) | (apply Ws <;> intro hg))
      exact Ends.ret1 rfl ⟨_, rfl, .inr (.inr ⟨hck, hok, .inr ⟨Decidable.not_not.1 hq, .inl ⟨hbi.1 (Decidable.not_not.1 hb), rfl⟩⟩⟩), n8, by omega, hH8.tail.tail.tail⟩
end Go.Proofs.Ytmogipomnjihcaa.Eb

namespace Go.Proofs.Ytmogipomnjihcaa.Eb
open Go Go.Abs Go.Low
set_option linter.unusedVariables false
set_option linter.unusedSimpArgs false
attribute [local irreducible] gOK WS WC WR WD Ends FS YS OpV seqK blockK loopK midK retK rdK asgK rangeEnd sat Cell

theorem okp_mem {m : Nat} {ps : List Int} (h : OkP m ps ps.length) {q : Nat} : (q : Int) ∈ ps ↔ q ∈ ps.map Int.toNat := by
  rw [List.mem_map]
  constructor
  · intro hq; exact ⟨_, hq, by simp⟩
  · rintro ⟨x, hx, rfl⟩
    obtain ⟨i, hi, rfl⟩ := List.mem_iff_getElem.1 hx
    have := (h i hi).1
    rw [getD_eq hi] at this
    rw [Int.toNat_of_nonneg this]; exact hx

set_option maxHeartbeats 2000000 in
theorem ProvesRef_fs {M : HL} {n : Nat} {H : Heap} (hH : hasH M n H) {r c : Int} {v vp : Value} {xs ps : List Int} {h : Int} (hS : Sl M 1 v (ints xs)) (hP : Sl M 1 vp (ints ps)) (hx : xs.length ≤ 1000) (hpl : ps.length ≤ 1000) :
    FS C 36 [.agg #[.int .i64 r, .int .i64 c, v], vp, .int .i64 h] H (fun e H' => ∃ a, e = .int .i64 a ∧ ProvesS r c xs ps h a) := by
  have h1 := hS.one_
  refine FS.intro (pf := pf36) rfl rfl rfl ?_
  repeat' (first | refine zA ?_ | (refine zM ?_; intro _ _) | (apply Ws <;> intro hg))
  rename_i H1 hH1
  have hSv : Sl ((n, .row 27 0 0 [.int .i64 r, .int .i64 c, v]) :: M) 1 v (ints xs) := hS.cons
  have hPv : Sl ((n, .row 27 0 0 [.int .i64 r, .int .i64 c, v]) :: M) 1 vp (ints ps) := hP.cons
  have hmT : (n, Ch.row 27 0 0 [.int .i64 r, .int .i64 c, v]) ∈ (n, Ch.row 27 0 0 [.int .i64 r, .int .i64 c, v]) :: M := .head _
  generalize (n, Ch.row 27 0 0 [.int .i64 r, .int .i64 c, v]) :: M = T at hSv hPv hmT hH1
  refine WR.call (by first | exact gN | exact gS rfl) rfl rfl (CheckR_fs hH1 hSv hx) ?_
  rintro _ H2 ⟨rfl, n2, hn2, hH2⟩
  clear hH1
  (first | refine zA ?_ | (refine zM ?_; intro _ _) | (apply Ws <;> intro hg))
  (first | refine zA ?_ | (refine zM ?_; intro _ _) | (apply Ws <;> intro hg))
  (first | refine zA ?_ | (refine zM ?_; intro _ _) | (apply Ws <;> intro hg))
  (first | refine zA ?_ | (refine zM ?_; intro _ _) | (apply Ws <;> intro hg))
  refine WC.joinE (fun s : Int × Nat => [(1, vp), (2, .int .i64 h), (3, .pointer (some ⟨n, 0, some 0⟩)), (7, .int .i64 s.1)]) (fun _ => [])
    (fun s H => ((s.1 = 0 ∧ checkE r c xs = 0 ∧ OkP xs.length ps ps.length) ∨ (s.1 ≠ 0 ∧ ProvesS r c xs ps h s.1)) ∧ hasH T s.2 H) ?_ ?_
  · repeat' (first | refine zA ?_ | (refine zM ?_; intro _ _) | (apply Ws <;> intro hg))
    refine WC.loop (fun s : Nat × Int × Nat => [(1, vp), (2, .int .i64 h), (3, .pointer (some ⟨n, 0, some 0⟩)), (7, .int .i64 s.2.1), (8, .int .i64 (s.1 : Int))]) (fun _ => [])
      (fun s H => s.1 ≤ ps.length ∧ ((s.2.1 = 0 ∧ checkE r c xs = 0 ∧ OkP xs.length ps s.1) ∨ (s.2.1 ≠ 0 ∧ ProvesS r c xs ps h s.2.1)) ∧ hasH T s.2.2 H) (fun s => ps.length - s.1) (0, checkE r c xs, n2) (by repeat' (first | exact .nil | refine .cons rfl ?_)) rfl ⟨Nat.zero_le _, ?_, hH2⟩ ?_
    · by_cases hck : checkE r c xs = 0
      · exact .inl ⟨hck, hck, fun i hi => absurd hi (Nat.not_lt_zero _)⟩
      · exact .inr ⟨hck, .inl ⟨hck, rfl⟩⟩
    clear hH2
    rintro ⟨k, ev, n3⟩ H3 ⟨hk, hev, hH3⟩
    simp only at hk hev hH3
    dsimp only
    repeat' (first | refine zA ?_ | (refine zM ?_; intro _ _) | (apply Ws <;> intro hg))
    refine WR.op (by first | exact gN | exact gS rfl) rfl (OpV.lenSI rfl hPv) ?_
    repeat' (first | refine zA ?_ | (refine zM ?_; intro _ _) | (apply Ws <;> intro hg))
    · have hk' : k < ps.length := by omega
      refine WC.condP rfl (fun hev0 => ?_) (fun hev0 => ?_)
      · obtain ⟨_, hck, hok⟩ := hev.resolve_right (fun h2 => h2.1 hev0)
        clear hev
        repeat' (first | refine zA ?_ | (refine zM ?_; intro _ _) | (apply Ws <;> intro hg))
        refine WR.idxSl (by first | exact gN | exact gS rfl) rfl rfl hPv rfl rfl (c := .int .i64 (ps.getD k 0)) (ints_get hk') fun b' o' u' hc => ?_
        repeat' (first | refine zA ?_ | (refine zM ?_; intro _ _) | (apply Ws <;> intro hg))
        refine WR.call (by first | exact gN | exact gS rfl) rfl rfl (place_fs hH3 hSv hx (ps.getD k 0)) ?_
        rintro _ H4 ⟨rfl, n4, hn4, hH4⟩
        repeat' (first | refine zA ?_ | (refine zM ?_; intro _ _) | (apply Ws <;> intro hg))
        refine WC.condP rfl (fun hq => ?_) (fun hq => ?_)
        · repeat' (first | refine zA ?_ | (refine zM ?_; intro _ _) | (apply Ws <;> intro hg))
          exact Ends.loop (k + 1, 2, n4) (by simp only; omega) (by repeat' (first | exact .nil | refine .cons rfl ?_)) rfl ⟨hk', .inr ⟨by simp, .inr (.inl ⟨hck, k, hk', hok, .inl ⟨hq, rfl⟩⟩)⟩, hH4⟩
        have hq' := Decidable.not_not.1 hq
        clear hq
        repeat' (first | refine zA ?_ | (refine zM ?_; intro _ _) | (apply Ws <;> intro hg))
        · have hk0 : 0 < k := by omega
          refine WR.idxSl (by first | exact gN | exact gS rfl) rfl rfl hPv rfl rfl (c := .int .i64 (ps.getD k 0)) (ints_get hk') fun b' o' u' hc => ?_
          repeat' (first | refine zA ?_ | (refine zM ?_; intro _ _) | (apply Ws <;> intro hg))
          refine WR.op (by first | exact gN | exact gS rfl) rfl (OpV.sub' (c := ((k - 1 : Nat) : Int)) rfl rfl (by omega) (by omega)) ?_
          refine WR.idxSl (by first | exact gN | exact gS rfl) rfl rfl hPv rfl rfl (c := .int .i64 (ps.getD (k - 1) 0)) (ints_get (by omega)) fun b' o' u' hc => ?_
          repeat' (first | refine zA ?_ | (refine zM ?_; intro _ _) | (apply Ws <;> intro hg))
          refine WC.condP rfl (fun hq2 => ?_) (fun hq2 => ?_)
          · repeat' (first | refine zA ?_ | (refine zM ?_; intro _ _) | (apply Ws <;> intro hg))
            exact Ends.loop (k + 1, 7, n4) (by simp only; omega) (by repeat' (first | exact .nil | refine .cons rfl ?_)) rfl ⟨hk', .inr ⟨by simp, .inr (.inl ⟨hck, k, hk', hok, .inr ⟨hq', hk0, hq2, rfl⟩⟩)⟩, hH4⟩
          · repeat' (first | refine zA ?_ | (refine zM ?_; intro _ _) | (apply Ws <;> intro hg))
            exact Ends.loop (k + 1, ev, n4) (by simp only; omega) (by repeat' (first | exact .nil | refine .cons rfl ?_)) rfl ⟨hk', .inl ⟨hev0, hck, hok.next hq' (fun _ => by omega)⟩, hH4⟩
        · repeat' (first | refine zA ?_ | (refine zM ?_; intro _ _) | (apply Ws <;> intro hg))
          exact Ends.loop (k + 1, ev, n4) (by simp only; omega) (by repeat' (first | exact .nil | refine .cons rfl ?_)) rfl ⟨hk', .inl ⟨hev0, hck, hok.next hq' (fun h2 => by omega)⟩, hH4⟩
      · repeat' (first | refine zA ?_ | (refine zM ?_; intro _ _) | (apply Ws <;> intro hg))
        exact Ends.midE (ev, n3) (by repeat' (first | exact .nil | refine .cons rfl ?_)) rfl ⟨.inr (hev.resolve_left (fun h2 => hev0 h2.1)), hH3⟩
    · have hkn : k = ps.length := by omega
      subst hkn
      repeat' (first | refine zA ?_ | (refine zM ?_; intro _ _) | (apply Ws <;> intro hg))
      exact Ends.midE (ev, n3) (by repeat' (first | exact .nil | refine .cons rfl ?_)) rfl ⟨hev, hH3⟩
  clear hH2
  rintro ⟨ev, n3⟩ H3 ⟨hev, hH3⟩
  simp only at hev hH3
  dsimp only
  rcases hev with ⟨rfl, hck, hok⟩ | ⟨hev0, hps⟩
  · repeat' (first | refine zA ?_ | (refine zM ?_; intro _ _) | (apply Ws <;> intro hg))
    refine WR.call (by first | exact gN | exact gS rfl) rfl rfl (in_fs _ _ _ _) ?_
    rintro _ _ ⟨rfl, rfl⟩
    repeat' (first | refine zA ?_ | (refine zM ?_; intro _ _) | (apply Ws <;> intro hg))
    refine WC.condP rfl (fun hh30 => ?_) (fun hh30 => ?_)
    · repeat' (first | refine zA ?_ | (refine zM ?_; intro _ _) | (apply Ws <;> intro hg))
      exact Ends.ret1 rfl ⟨_, rfl, .inr (.inr ⟨hck, hok, .inl ⟨hh30, rfl⟩⟩)⟩
    have hh30' := Decidable.not_not.1 hh30
    clear hh30
    obtain ⟨hh, hc6, hr36⟩ := HS_of hck
    obtain ⟨g1, g2, g3, g4, g5, g6⟩ := check_ok hck
    have hbg := bars_good (c := c.toNat) (r := xs.length) (hs := padded xs) (pl := ps.map Int.toNat) (h := h) hh.c1 hh.cr (okp_nat hok)
    have hmemq := fun {q : Nat} => okp_mem hok (q := q)
    have hbad : ¬ Bars c.toNat xs.length (padded xs) (ps.map Int.toNat) h → ProvesS r c xs ps h 14 := fun hb => .inr (.inr ⟨hck, hok, .inr ⟨hh30', .inr ⟨hb, rfl⟩⟩⟩)
    have hgood : Bars c.toNat xs.length (padded xs) (ps.map Int.toNat) h → ProvesS r c xs ps h 0 := fun hb => .inr (.inr ⟨hck, hok, .inr ⟨hh30', .inl ⟨hb, rfl⟩⟩⟩)
    obtain ⟨rows, rfl⟩ : ∃ rows : Nat, r = rows := ⟨r.toNat, by omega⟩
    obtain ⟨c, rfl⟩ : ∃ c' : Nat, c = c' := ⟨c.toNat, by omega⟩
    rw [Int.toNat_natCast] at hh hc6 hbg hbad hgood
    have hrc : xs.length = rows * c := by
      have : ((rows * c : Nat) : Int) = (rows : Int) * (c : Int) := by simp
      omega
    have hcc : 1 ≤ c ∧ c ≤ 6 := ⟨hh.c1, hc6⟩
    have hrows : 1 ≤ rows ∧ rows ≤ 6 := ⟨by omega, by omega⟩
    have hget : ∀ q, q < xs.length → (ints xs)[q]? = some (.int .i64 ((padded xs).getD q 0)) := fun q hq => by rw [padded_get (by omega)]; exact ints_get hq
    have hpn : ∀ k, k < ps.length → ∃ p : Nat, ps.getD k 0 = (p : Int) ∧ p < xs.length ∧ (ps.map Int.toNat)[k]? = some p := by
      intro k hk
      have h2 := hok k hk
      refine ⟨(ps.getD k 0).toNat, by omega, by omega, ?_⟩
      rw [List.getElem?_map, List.getElem?_eq_getElem hk, getD_eq hk]; rfl
    clear hck
    generalize padded xs = hs at hh hbg hbad hgood hget
    repeat' (first | refine zA ?_ | (refine zM ?_; intro _ _) | (apply Ws <;> intro hg))
    refine WC.loop (fun s : Nat × Nat => [(1, vp), (2, .int .i64 h), (3, .pointer (some ⟨n, 0, some 0⟩)), (9, .int .i64 (s.1 : Int))]) (fun _ => [])
      (fun s H => s.1 ≤ ps.length ∧ (∀ j, j < s.1 → ∀ p, (ps.map Int.toNat)[j]? = some p → GoodP c xs.length hs (ps.map Int.toNat) h p) ∧ hasH T s.2 H) (fun s => ps.length - s.1) (0, n3) (by repeat' (first | exact .nil | refine .cons rfl ?_)) rfl ⟨Nat.zero_le _, fun j hj => absurd hj (Nat.not_lt_zero _), hH3⟩ ?_
    clear hH3
    rintro ⟨k, n4⟩ H4 ⟨hk, hgd, hH4⟩
    simp only at hk hgd hH4
    dsimp only
    repeat' (first | refine zA ?_ | (refine zM ?_; intro _ _) | (apply Ws <;> intro hg))
    refine WR.op (by first | exact gN | exact gS rfl) rfl (OpV.lenSI rfl hPv) ?_
    repeat' (first | refine zA ?_ | (refine zM ?_; intro _ _) | (apply Ws <;> intro hg))
    refine WC.condP rfl (fun hlt => ?_) (fun hlt => ?_)
    · have hk' : k < ps.length := by omega
      obtain ⟨p, hpe, hpr, hpk⟩ := hpn k hk'
      have hload : (ints ps)[k]? = some (.int .i64 (p : Int)) := by rw [← hpe]; exact ints_get hk'
      have hpm : p ∈ ps.map Int.toNat := List.mem_of_getElem? hpk
      repeat' (first | refine zA ?_ | (refine zM ?_; intro _ _) | (apply Ws <;> intro hg))
      refine WR.idxSl (by first | exact gN | exact gS rfl) rfl rfl hPv rfl rfl hload fun b' o' u' hc => ?_
      repeat' (first | refine zA ?_ | (refine zM ?_; intro _ _) | (apply Ws <;> intro hg))
      refine WR.call (by first | exact gN | exact gS rfl) rfl rfl (last_fs hH4 h1 hcc hrows hrc hpr) ?_
      rintro _ H5 ⟨rfl, n5, hn5, hH5⟩
      repeat' (first | refine zA ?_ | (refine zM ?_; intro _ _) | (apply Ws <;> intro hg))
      refine WC.condP rfl (fun hla => ?_) (fun hla => ?_)
      · repeat' (first | refine zA ?_ | (refine zM ?_; intro _ _) | (apply Ws <;> intro hg))
        exact Ends.ret1 rfl ⟨_, rfl, hbad (fun hb => (hbg.1 hb p hpm).1 hla)⟩
      repeat' (first | refine zA ?_ | (refine zM ?_; intro _ _) | (apply Ws <;> intro hg))
      refine WC.loop (fun s : Nat × Nat => [(1, vp), (2, .int .i64 h), (3, .pointer (some ⟨n, 0, some 0⟩)), (9, .int .i64 (k : Int)), (10, .int .i64 (s.1 : Int))]) (fun _ => [])
        (fun s H => s.1 ≤ xs.length ∧ (∀ q, q < s.1 → q ∈ nbrs c xs.length p → q ∉ ps.map Int.toNat → ¬ hs.getD q 0 < h) ∧ hasH T s.2 H) (fun s => xs.length - s.1) (0, n5) (by repeat' (first | exact .nil | refine .cons rfl ?_)) rfl ⟨Nat.zero_le _, fun q hq => absurd hq (Nat.not_lt_zero _), hH5⟩ ?_
      clear hH5 hH4 hn5
      rintro ⟨q, n5⟩ H5 ⟨hq, hcl, hH5⟩
      simp only at hq hcl hH5
      dsimp only
      repeat' (first | refine zA ?_ | (refine zM ?_; intro _ _) | (apply Ws <;> intro hg))
      refine WR.op (by first | exact gN | exact gS rfl) rfl (OpV.lenSI rfl hSv) ?_
      repeat' (first | refine zA ?_ | (refine zM ?_; intro _ _) | (apply Ws <;> intro hg))
      refine WC.condP rfl (fun hlt2 => ?_) (fun hlt2 => ?_)
      · have hq' : q < xs.length := by omega
        have hnext : (q ∈ nbrs c xs.length p → q ∉ ps.map Int.toNat → ¬ hs.getD q 0 < h) → ∀ z, z < q + 1 → z ∈ nbrs c xs.length p → z ∉ ps.map Int.toNat → ¬ hs.getD z 0 < h := by
          intro h2 z hz
          rcases Nat.lt_or_ge z q with h3 | h3
          · exact hcl z h3
          · have : z = q := by omega
            subst this; exact h2
        repeat' (first | refine zA ?_ | (refine zM ?_; intro _ _) | (apply Ws <;> intro hg))
        refine WR.idxSl (by first | exact gN | exact gS rfl) rfl rfl hPv rfl rfl hload fun b' o' u' hc => ?_
        repeat' (first | refine zA ?_ | (refine zM ?_; intro _ _) | (apply Ws <;> intro hg))
        refine WR.call (by first | exact gN | exact gS rfl) rfl rfl (besideR_fs hH5 h1 hcc hh.cr hh.r36 hpr hq') ?_
        rintro _ H6 ⟨rfl, n6, hn6, hH6⟩
        repeat' (first | refine zA ?_ | (refine zM ?_; intro _ _) | (apply Ws <;> intro hg))
        · have hb : q ∈ nbrs c xs.length p := hg
          refine WR.call (by first | exact gN | exact gS rfl) rfl rfl (has_fs hH6 hPv (by omega) (q : Int)) ?_
          rintro _ _ ⟨rfl, rfl⟩
          repeat' (first | refine zA ?_ | (refine zM ?_; intro _ _) | (apply Ws <;> intro hg))
          · have hnm : q ∉ ps.map Int.toNat := fun h2 => hg (hmemq.2 h2)
            refine WR.idxSl (by first | exact gN | exact gS rfl) rfl rfl hSv rfl rfl (hget q hq') fun b' o' u' hc => ?_
            repeat' (first | refine zA ?_ | (refine zM ?_; intro _ _) | (apply Ws <;> intro hg))
            refine WC.condP rfl (fun hlow => ?_) (fun hlow => ?_)
            · repeat' (first | refine zA ?_ | (refine zM ?_; intro _ _) | (apply Ws <;> intro hg))
              exact Ends.ret1 rfl ⟨_, rfl, hbad (fun hb2 => (hbg.1 hb2 p hpm).2 q hq' hb hnm hlow)⟩
            · repeat' (first | refine zA ?_ | (refine zM ?_; intro _ _) | (apply Ws <;> intro hg))
              exact Ends.loop (q + 1, n6) (by simp only; omega) (by repeat' (first | exact .nil | refine .cons rfl ?_)) rfl ⟨hq', hnext (fun _ _ => hlow), hH6⟩
          · have hnm : q ∈ ps.map Int.toNat := hmemq.1 (Decidable.not_not.1 hg)
            repeat' (first | refine zA ?_ | (refine zM ?_; intro _ _) | (apply Ws <;> intro hg))
            exact Ends.loop (q + 1, n6) (by simp only; omega) (by repeat' (first | exact .nil | refine .cons rfl ?_)) rfl ⟨hq', hnext (fun _ h2 => absurd hnm h2), hH6⟩
        · have hb : ¬ q ∈ nbrs c xs.length p := hg
          repeat' (first | refine zA ?_ | (refine zM ?_; intro _ _) | (apply Ws <;> intro hg))
          exact Ends.loop (q + 1, n6) (by simp only; omega) (by repeat' (first | exact .nil | refine .cons rfl ?_)) rfl ⟨hq', hnext (fun h2 => absurd h2 hb), hH6⟩
      have hqn : q = xs.length := by omega
      subst hqn
      repeat' (first | refine zA ?_ | (refine zM ?_; intro _ _) | (apply Ws <;> intro hg))
      refine Ends.loop (k + 1, n5) (by simp only; omega) (by repeat' (first | exact .nil | refine .cons rfl ?_)) rfl ⟨hk', fun j hj p' hp' => ?_, hH5⟩
      rcases Nat.lt_or_ge j k with h2 | h2
      · exact hgd j h2 p' hp'
      · have : j = k := by simp only at hj; omega
        subst this
        rw [hpk] at hp'; cases hp'
        exact ⟨hla, hcl⟩
    have hkn : k = ps.length := by omega
    subst hkn
    repeat' (first | refine zA ?_ | (refine zM ?_; intro _ _) | (apply Ws <;> intro hg))
    refine Ends.ret1 rfl ⟨_, rfl, hgood (hbg.2 (fun p hp => ?_))⟩
    obtain ⟨j, hj, rfl⟩ := List.mem_iff_getElem.1 hp
    exact hgd j (by simpa using hj) _ (List.getElem?_eq_getElem hj)
  · repeat' (first | refine zA ?_ | (refine zM ?_; intro _ _) | (apply Ws <;> intro hg))
    · exact absurd (by assumption) hev0
    · refine WC.condP rfl (fun hne => ?_) (fun hne => ?_)
      · repeat' (first | refine zA ?_ | (refine zM ?_; intro _ _) | (apply Ws <;> intro hg))
        exact Ends.ret1 rfl ⟨_, rfl, hps⟩
      · exact absurd hev0 hne
end Go.Proofs.Ytmogipomnjihcaa.Eb
