/- Texts of the law, joined. -/
import Derived.Test.YtmogipomnjihcaaJ2
namespace Go.Proofs.Ytmogipomnjihcaa.Eb
open Go Go.Abs Go.Low
set_option linter.unusedVariables false
set_option linter.unusedSimpArgs false
attribute [local irreducible] gOK WS WC WR WD Ends FS YS OpV seqK blockK loopK midK retK rdK asgK rangeEnd sat Cell

structure BasR (r c : Int) (xs : List Int) (p : Nat) (l : List Nat) : Prop where
  ex : ∃ best, Lowest c.toNat xs.length (padded xs) xs.length best ∧ l.Pairwise (· < ·) ∧ ∀ y, y ∈ l ↔ RP c.toNat xs.length (padded xs) (best.getD p 0 - 1) p y

theorem rm_rp {c r : Nat} {hs : List Int} {ms : List Bool} {t : Int} (hms : ∀ y, ms.getD y false = true ↔ y < r ∧ hs.getD y 0 < t) {p y : Nat} (hp : p < r) : RM c r ms p y ↔ RP c r hs (t - 1) p y := by
  constructor
  · intro h
    induction h with
    | start h => exact .start (by have := (hms p).1 h; omega)
    | step _ hy ht ih => have := (hms _).1 ht; exact .step ih hy this.1 (by omega)
  · intro h
    induction h with
    | start h => exact .start ((hms p).2 ⟨hp, by omega⟩)
    | step _ hy hr ht ih => exact .step ih hy ((hms _).2 ⟨hr, by omega⟩)

set_option maxHeartbeats 1000000 in
theorem Basin_fs {M : HL} {n : Nat} {H : Heap} (hH : hasH M n H) {r c : Int} {v : Value} {xs : List Int} (hS : Sl M 1 v (ints xs)) (hx : xs.length ≤ 1000) (p : Int) :
    FS C 33 [.agg #[.int .i64 r, .int .i64 c, v], .int .i64 p] H (fun e H' => ∃ n', n ≤ n' ∧ (placeE r c xs p ≠ 0 ∧ e = .tuple #[.slice none 0 0, .int .i64 (placeE r c xs p)] ∧ hasH M n' H' ∨
      placeE r c xs p = 0 ∧ ∃ v' Mx l, e = .tuple #[v', .int .i64 0] ∧ Own 3 1 v' (nodes l) Mx ∧ hasH (Mx ++ M) n' H' ∧ BasR r c xs p.toNat l)) := by
  have h1 := hS.one_
  refine FS.intro (pf := pf33) rfl rfl rfl ?_
  repeat' (first | refine zA ?_ | (refine zM ?_; intro _ _) | (apply Ws <;> intro hg))
  refine WR.call (by first | exact gN | exact gS rfl) rfl rfl (layFor_fs (by assumption) hS.cons hx p) ?_
  rintro _ H2 ⟨n2, hn2, ⟨hne, rfl, hH2⟩ | ⟨he0, bg, rfl, hH2⟩⟩
  · repeat' (first | refine zA ?_ | (refine zM ?_; intro _ _) | (apply Ws <;> intro hg))
    refine WC.condP rfl (fun h => ?_) (fun h => ?_)
    · repeat' (first | refine zA ?_ | (refine zM ?_; intro _ _) | (apply Ws <;> intro hg))
      exact Ends.ret2 rfl rfl ⟨n2, by omega, .inl ⟨hne, rfl, hH2.tail⟩⟩
    · exact absurd hne h
  · obtain ⟨hck, hp0, hp1⟩ := place_ok he0
    obtain ⟨hh, hc6, hr36⟩ := HS_of hck
    obtain ⟨q, rfl⟩ : ∃ q : Nat, p = q := ⟨p.toNat, by omega⟩
    have hq : q < xs.length := by omega
    repeat' (first | refine zA ?_ | (refine zM ?_; intro _ _) | (apply Ws <;> intro hg))
    refine WR.call (by first | exact gN | exact gS rfl) rfl rfl (sills_fs hH2 (by first | assumption | exact .head _ | exact .tail _ (.head _) | exact .tail _ (.tail _ (.head _)) | exact .tail _ (.tail _ (.tail _ (.head _))) | exact .tail _ (.tail _ (.tail _ (.tail _ (.head _)))) | exact .tail _ (.tail _ (.tail _ (.tail _ (.tail _ (.head _))))) | exact .tail _ (.tail _ (.tail _ (.tail _ (.tail _ (.tail _ (.head _)))))) | (repeat' (first | assumption | apply List.mem_cons_of_mem))) hh hc6) ?_
    rintro _ H3 ⟨best, n3, rfl, hn3, hH3, hl⟩
    have hbl := hl.len
    repeat' (first | refine zA ?_ | (refine zM ?_; intro _ _) | (apply Ws <;> intro hg))
    refine WR.op (by first | exact gN | exact gS rfl) rfl (OpV.idx (v := .int .i64 (best.getD q 0)) rfl rfl rfl (show q < 37 by omega) (by rw [Nat.mul_one]; exact toArray_get (ints_get (by omega)))) ?_
    repeat' (first | refine zA ?_ | (refine zM ?_; intro _ _) | (apply Ws <;> intro hg))
    rename_i hq2
    have hq3 : hasH ((n3, .row 97 0 0 (bools (List.replicate 37 false))) :: (bg, Ch.row 99 0 0 (gcells c.toNat xs.length (padded xs))) :: (n, .row 24 0 0 [.int .i64 r, .int .i64 c, v]) :: M) (n3 + 1) _ := hq2
    have hmg : (bg, Ch.row 99 0 0 (gcells c.toNat xs.length (padded xs))) ∈ (bg, Ch.row 99 0 0 (gcells c.toNat xs.length (padded xs))) :: (n, .row 24 0 0 [.int .i64 r, .int .i64 c, v]) :: M := by simp
    have hback : ∀ {Z : HL} {n' : Nat} {H' : Heap}, hasH (Z ++ ((bg, Ch.row 99 0 0 (gcells c.toNat xs.length (padded xs))) :: (n, .row 24 0 0 [.int .i64 r, .int .i64 c, v]) :: M)) n' H' → hasH (Z ++ M) n' H' :=
      fun hq => hq.sub (.append (.refl _) (.cons _ (.cons _ (.refl _))))
    generalize (bg, Ch.row 99 0 0 (gcells c.toNat xs.length (padded xs))) :: (n, .row 24 0 0 [.int .i64 r, .int .i64 c, v]) :: M = T at hmg hback hq3
    clear hq2 hH3 hH2
    have hhl := hh.len
    refine WC.loop (fun a : Nat × List Bool => [(1, .int .i64 (q : Int)), (6, .pointer (some ⟨bg, 0, some 0⟩)), (8, .int .i64 (best.getD q 0)), (9, .pointer (some ⟨n3, 0, some 0⟩)), (27, .int .i64 (xs.length : Int)), (28, .int .i64 (a.1 : Int))]) (fun _ => [])
      (fun a H => a.1 ≤ xs.length ∧ a.2.length = 37 ∧ (∀ y, a.2.getD y false = true ↔ y < a.1 ∧ (padded xs).getD y 0 < best.getD q 0) ∧ hasH ((n3, .row 97 0 0 (bools a.2)) :: T) (n3 + 1) H)
      (fun a => xs.length - a.1) (0, List.replicate 37 false) (by repeat' (first | exact .nil | refine .cons rfl ?_)) rfl ⟨Nat.zero_le _, rfl, fun y => ?_, hq3⟩ ?_
    · rw [List.getD_eq_getElem?_getD, List.getElem?_replicate]
      split <;> simp
    clear hq3
    rintro ⟨k, ms⟩ H6 ⟨hk, hms, hat, hH6⟩
    simp only at hk hms hat hH6
    dsimp only
    have hmT : (bg, Ch.row 99 0 0 (gcells c.toNat xs.length (padded xs))) ∈ (n3, .row 97 0 0 (bools ms)) :: T := .tail _ hmg
    repeat' (first | refine zA ?_ | (refine zM ?_; intro _ _) | (apply Ws <;> intro hg))
    refine WC.condP rfl (fun hlt => ?_) (fun hlt => ?_)
    · have hk' : k < xs.length := by omega
      repeat' (first | refine zA ?_ | (refine zM ?_; intro _ _) | (apply Ws <;> intro hg))
      refine WR.op (by first | exact gN | exact gS rfl) rfl (loadG rfl hH6 hmT (by omega)) ?_
      repeat' (first | refine zA ?_ | (refine zM ?_; intro _ _) | (apply Ws <;> intro hg))
      refine WR.storeB (by first | exact gN | exact gS rfl) hH6 rfl rfl .here (by omega) fun H7 hH7 => ?_
      repeat' (first | refine zA ?_ | (refine zM ?_; intro _ _) | (apply Ws <;> intro hg))
      refine Ends.loop (k + 1, _) (by simp only; omega) (by repeat' (first | exact .nil | refine .cons rfl ?_)) rfl ⟨hk', by simpa using hms, fun y => ?_, hH7⟩
      simp only
      rw [getB_set (by omega)]
      by_cases hy : y = k
      · subst hy
        rw [if_pos rfl, decide_eq_true_iff]
        exact ⟨fun h => ⟨by omega, h⟩, fun h => h.2⟩
      · rw [if_neg hy, hat y]
        exact ⟨fun h => ⟨by omega, h.2⟩, fun h => ⟨by omega, h.2⟩⟩
    have hkn : k = xs.length := by omega
    subst hkn
    repeat' (first | refine zA ?_ | (refine zM ?_; intro _ _) | (apply Ws <;> intro hg))
    refine WR.call (by first | exact gN | exact gS rfl) rfl rfl (reach_fs hH6 hmT (.head _) hms hh hc6 (Nat.le_of_lt hq)) ?_
    rintro _ H7 ⟨bm, n7, ts, rfl, hn7, hH7, htl, hts⟩
    refine WR.call (by first | exact gN | exact gS rfl) rfl rfl (marks_fs hH7 (.head _) htl) ?_
    rintro vp H8 ⟨Mx, n8, hn8, hOp, hH8⟩
    repeat' (first | refine zA ?_ | (refine zM ?_; intro _ _) | (apply Ws <;> intro hg))
    refine Ends.ret2 rfl rfl ⟨n8, by omega, .inr ⟨he0, vp, Mx, _, rfl, hOp, ?_, ⟨best, hl, filter_range_lt _ _, fun y => ?_⟩⟩⟩
    · exact hback (hH8.sub (.append (.refl _) (.cons _ (.cons _ (.refl _)))))
    · rw [Int.toNat_natCast, mem_marked, hts, rm_rp hat hq]
      exact ⟨fun h => h.2, fun h => ⟨by have := h.lt hq; omega, h⟩⟩
end Go.Proofs.Ytmogipomnjihcaa.Eb

namespace Go.Proofs.Ytmogipomnjihcaa.Eb
open Go Go.Abs Go.Low
set_option linter.unusedVariables false
set_option linter.unusedSimpArgs false
attribute [local irreducible] gOK WS WC WR WD Ends FS YS OpV seqK blockK loopK midK retK rdK asgK rangeEnd sat Cell

def GoodP (c r : Nat) (hs : List Int) (pl : List Nat) (h : Int) (p : Nat) : Prop := r ∉ nbrs c r p ∧ ∀ q, q < r → q ∈ nbrs c r p → q ∉ pl → ¬ hs.getD q 0 < h
structure Acc (k : Nat) (pl : List Nat) : Prop where
  lt : ∀ p ∈ pl, p < k
  sort : pl.Pairwise (· < ·)
  len : pl.length ≤ k

theorem Acc.push {k : Nat} {pl : List Nat} (h : Acc k pl) : Acc (k + 1) (pl ++ [k]) where
  lt p hp := by
    rcases List.mem_append.1 hp with h1 | h1
    · have := h.lt p h1; omega
    · rw [List.mem_singleton.1 h1]; omega
  sort := List.pairwise_append.2 ⟨h.sort, List.pairwise_singleton _ _, fun a ha b hb => by rw [List.mem_singleton.1 hb]; exact h.lt a ha⟩
  len := by rw [List.length_append, List.length_singleton]; have := h.len; omega

theorem Acc.skip {k : Nat} {pl : List Nat} (h : Acc k pl) : Acc (k + 1) pl := ⟨fun p hp => by have := h.lt p hp; omega, h.sort, by have := h.len; omega⟩
structure AV where
  k : Nat
  v : Value
  Mx : HL
  n : Nat
  pl : List Nat
end Go.Proofs.Ytmogipomnjihcaa.Eb
