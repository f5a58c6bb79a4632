/- Texts of the law, joined. -/
import Derived.Test.YtfnflkcjhefddaaJ2
import Derived.Test.YtfnflkcjhefddaaSymZ
/- The reference's functions. -/
namespace Go.Proofs.Ytfnflkcjhefddaa.Lk
open Go Go.Abs Go.Mth
set_option linter.unusedVariables false
set_option linter.unusedSimpArgs false
def ascR (l : List Nat) : Bool := decide (l = List.range l.length)
theorem ascR_ord {l : List Nat} (h : OrdN l) : ascR l = ascB l := by
  have := asc_range h
  unfold ascR
  cases hb : ascB l with
  | true => rw [decide_eq_true (this.1 hb)]
  | false => rw [decide_eq_false fun e => by rw [this.2 e] at hb; cases hb]
structure UZ where
  k : Nat
  v : Value
  Mx : HL
  n : Nat
attribute [local irreducible] gOK WS WC WR WD Ends FS YS OpV seqK blockK loopK midK retK rdK asgK rangeEnd sat Cell
section
variable {M : HL} {n0 : Nat} {H : Heap} {v w : Value}
theorem rin_fs (a lo hi : Int) (H : Heap) : FS C 69 [.int .i64 a, .int .i64 lo, .int .i64 hi] H (fun e H' => e = .bool (decide (lo ≤ a ∧ a ≤ hi)) ∧ H' = H) := by
  refine FS.intro (pf := pf69) rfl rfl rfl ?_
  repeat' (first | refine zP ?_ | refine zA ?_ | (refine zM ?_; intro _ _) | refine zX ?_ | (refine zC ?_; intro _ _ _ _) | (refine zS ?_; intro _ _) | (apply Ws <;> intro hg))
  · exact Ends.ret1 rfl ⟨by congr 1; rw [decide_eq_decide]; omega, rfl⟩
  · exact Ends.ret1 rfl ⟨by rw [decide_eq_false (by omega)], rfl⟩
theorem place_fs (hH : hasH M n0 H) {xs : List Int} (hS : Sl M 1 v (ints xs)) (hx : xs.length ≤ 100000) (a : Int) :
    FS C 70 [v, .int .i64 a] H (fun e H' => H' = H ∧ ((∃ k, k < xs.length ∧ xs.getD k 0 = a ∧ (∀ j, j < k → xs.getD j 0 ≠ a) ∧ e = .int .i64 (k : Int)) ∨ (a ∉ xs ∧ e = .int .i64 (-1)))) := by
  refine FS.intro (pf := pf70) rfl rfl rfl ?_
  repeat' (first | refine zP ?_ | refine zA ?_ | (refine zM ?_; intro _ _) | refine zX ?_ | (refine zC ?_; intro _ _ _ _) | (refine zS ?_; intro _ _) | (apply Ws <;> intro hg))
  refine WC.loopX [(0, _), (1, _)] (fun k : Nat => [(5, .int .i64 (k : Int))]) [] (fun k H' => H' = H ∧ k ≤ xs.length ∧ ∀ j, j < k → xs.getD j 0 ≠ a) (fun k => xs.length - k) 0 (by repeat' (first | exact .nil | refine .cons rfl ?_)) rfl ⟨rfl, Nat.zero_le _, fun j h => absurd h (Nat.not_lt_zero _)⟩ ?_
  rintro k H' ⟨rfl, hk, hno⟩
  dsimp only [List.cons_append, List.nil_append]
  repeat' (first | refine zP ?_ | refine zA ?_ | (refine zM ?_; intro _ _) | refine zX ?_ | (refine zC ?_; intro _ _ _ _) | (refine zS ?_; intro _ _) | (apply Ws <;> intro hg))
  refine WC.condP rfl (fun hlt => ?_) (fun hlt => ?_)
  · have hk' : k < xs.length := by omega
    repeat' (first | refine zP ?_ | refine zA ?_ | (refine zM ?_; intro _ _) | refine zX ?_ | (refine zC ?_; intro _ _ _ _) | (refine zS ?_; intro _ _) | (apply Ws <;> intro hg))
    refine WC.condP rfl (fun h => ?_) (fun h => ?_)
    · repeat' (first | refine zP ?_ | refine zA ?_ | (refine zM ?_; intro _ _) | refine zX ?_ | (refine zC ?_; intro _ _ _ _) | (refine zS ?_; intro _ _) | (apply Ws <;> intro hg))
      exact Ends.ret1 rfl ⟨rfl, .inl ⟨k, hk', h, hno, rfl⟩⟩
    · repeat' (first | refine zP ?_ | refine zA ?_ | (refine zM ?_; intro _ _) | refine zX ?_ | (refine zC ?_; intro _ _ _ _) | (refine zS ?_; intro _ _) | (apply Ws <;> intro hg))
      refine Ends.loop (k + 1) (by omega) (by repeat' (first | exact .nil | refine .cons rfl ?_)) rfl ⟨rfl, hk', fun j hj => ?_⟩
      rcases Nat.lt_or_ge j k with h2 | h2
      · exact hno j h2
      · rw [show j = k by omega]; exact h
  · repeat' (first | refine zP ?_ | refine zA ?_ | (refine zM ?_; intro _ _) | refine zX ?_ | (refine zC ?_; intro _ _ _ _) | (refine zS ?_; intro _ _) | (apply Ws <;> intro hg))
    refine Ends.ret1 rfl ⟨rfl, .inr ⟨fun hm => ?_, rfl⟩⟩
    obtain ⟨j, hj, he⟩ := List.mem_iff_getElem.1 hm
    exact hno j (by omega) (by rw [getD_eq hj]; exact he)
/-- Whether there is a place. -/
theorem placeN_fs (hH : hasH M n0 H) {l : List Nat} (hS : Sl M 1 v (nodes l)) (hx : l.length ≤ 100000) (a : Nat) :
    FS C 70 [v, .int .i64 (a : Int)] H (fun e H' => H' = H ∧ ∃ k : Int, e = .int .i64 k ∧ (k < 0 ↔ a ∉ l) ∧ -1 ≤ k ∧ k ≤ 100000) := by
  refine (place_fs hH (xs := IL l) (by rw [← nodes_IL]; exact hS) (by rw [IL_len]; exact hx) (a : Int)).mono ?_
  rintro e H' ⟨h1, ⟨k, h2, h3, _, h4⟩ | ⟨h2, h3⟩⟩
  · rw [IL_len] at h2
    refine ⟨h1, k, h4, ⟨fun h => by omega, fun h => ?_⟩, by omega, by omega⟩
    rw [IL_get h2] at h3
    exact absurd (by rw [← show l.getD k 0 = a by omega]; exact getD_mem h2) h
  · exact ⟨h1, -1, h3, ⟨fun _ hm => h2 (List.mem_map.2 ⟨a, hm, rfl⟩), fun _ => by decide⟩, by decide, by decide⟩
theorem ascending_fs (hH : hasH M n0 H) {l : List Nat} (hS : Sl M 1 v (nodes l)) (hl : l.length ≤ 1000) :
    FS C 102 [v] H (fun e H' => e = .bool (ascR l) ∧ H' = H) := by
  refine FS.intro (pf := pf102) rfl rfl rfl ?_
  repeat' (first | refine zP ?_ | refine zA ?_ | (refine zM ?_; intro _ _) | refine zX ?_ | (refine zC ?_; intro _ _ _ _) | (refine zS ?_; intro _ _) | (apply Ws <;> intro hg))
  refine WC.loopX [(0, _)] (fun k : Nat => [(3, .int .i64 (k : Int))]) [] (fun k H' => H' = H ∧ k ≤ l.length ∧ ∀ i, i < k → l.getD i 0 = i) (fun k => l.length - k) 0 (by repeat' (first | exact .nil | refine .cons rfl ?_)) rfl ⟨rfl, Nat.zero_le _, fun i h => absurd h (Nat.not_lt_zero _)⟩ ?_
  rintro k _ ⟨rfl, hk, hall⟩
  dsimp only [List.cons_append, List.nil_append]
  repeat' (first | refine zP ?_ | refine zA ?_ | (refine zM ?_; intro _ _) | refine zX ?_ | (refine zC ?_; intro _ _ _ _) | (refine zS ?_; intro _ _) | (apply Ws <;> intro hg))
  refine WC.condP rfl (fun hlt => ?_) (fun hlt => ?_)
  · have hk' : k < l.length := by omega
    repeat' (first | refine zP ?_ | refine zA ?_ | (refine zM ?_; intro _ _) | refine zX ?_ | (refine zC ?_; intro _ _ _ _) | (refine zS ?_; intro _ _) | (apply Ws <;> intro hg))
    refine WC.condP rfl (fun hne => ?_) (fun hne => ?_)
    · repeat' (first | refine zP ?_ | refine zA ?_ | (refine zM ?_; intro _ _) | refine zX ?_ | (refine zC ?_; intro _ _ _ _) | (refine zS ?_; intro _ _) | (apply Ws <;> intro hg))
      refine Ends.ret1 rfl ⟨?_, rfl⟩
      unfold ascR
      rw [decide_eq_false fun e => ?_]
      have : l.getD k 0 = k := by
        rw [e, getD_eq (by simpa using hk'), List.getElem_range]
      omega
    · repeat' (first | refine zP ?_ | refine zA ?_ | (refine zM ?_; intro _ _) | refine zX ?_ | (refine zC ?_; intro _ _ _ _) | (refine zS ?_; intro _ _) | (apply Ws <;> intro hg))
      refine Ends.loop (k + 1) (by omega) (by repeat' (first | exact .nil | refine .cons rfl ?_)) rfl ⟨rfl, hk', fun i hi => ?_⟩
      rcases Nat.lt_or_ge i k with h | h
      · exact hall i h
      · rw [show i = k by omega]; omega
  · repeat' (first | refine zP ?_ | refine zA ?_ | (refine zM ?_; intro _ _) | refine zX ?_ | (refine zC ?_; intro _ _ _ _) | (refine zS ?_; intro _ _) | (apply Ws <;> intro hg))
    refine Ends.ret1 rfl ⟨?_, rfl⟩
    unfold ascR
    rw [decide_eq_true (ext_getD (a := 0) (by simp) fun i hi => ?_)]
    rw [hall i (by omega), getD_eq (by simpa using hi), List.getElem_range]
set_option maxHeartbeats 4000000 in
theorem rpass_fs : ∀ (N : Nat) {M : HL} {n0 : Nat} {H : Heap} {v : Value} {l : List Nat}, l.length ≤ N → hasH M n0 H → Sl M 1 v (nodes l) → l.Nodup → l.length ≤ 10 →
    FS C 62 [v] H (fun e H' => ∃ Mx n', ((l = [] ∧ e = .slice none 0 0 ∧ Mx = []) ∨ (l ≠ [] ∧ OwnR 3 1 e (nodes (passF l)) Mx)) ∧ n0 ≤ n' ∧ hasH (Mx ++ M) n' H') := by
  intro N
  induction N with
  | zero =>
    intro M n0 H v l hN hH hS hn h10
    have hl : l = [] := List.length_eq_zero_iff.1 (by omega)
    subst hl
    have hl0 : ([] : List Nat).length = 0 := rfl
    refine FS.intro (pf := pf62) rfl rfl rfl ?_
    repeat' (first | refine zP ?_ | refine zA ?_ | (refine zM ?_; intro _ _) | refine zX ?_ | (refine zC ?_; intro _ _ _ _) | (refine zS ?_; intro _ _) | refine zO ?_ | (apply Ws <;> intro hg))
    exact Ends.ret1 rfl ⟨[], n0, .inl ⟨rfl, rfl, rfl⟩, Nat.le_refl _, hH⟩
  | succ N ih =>
    intro M n0 H v l hN hH hS hn h10
    by_cases h0 : l.length = 0
    · have hl : l = [] := List.length_eq_zero_iff.1 h0
      subst hl
      have hl0 : ([] : List Nat).length = 0 := rfl
      refine FS.intro (pf := pf62) rfl rfl rfl ?_
      repeat' (first | refine zP ?_ | refine zA ?_ | (refine zM ?_; intro _ _) | refine zX ?_ | (refine zC ?_; intro _ _ _ _) | (refine zS ?_; intro _ _) | refine zO ?_ | (apply Ws <;> intro hg))
      exact Ends.ret1 rfl ⟨[], n0, .inl ⟨rfl, rfl, rfl⟩, Nat.le_refl _, hH⟩
    · refine FS.intro (pf := pf62) rfl rfl rfl ?_
      repeat' (first | refine zP ?_ | refine zA ?_ | (refine zM ?_; intro _ _) | refine zX ?_ | (refine zC ?_; intro _ _ _ _) | (refine zS ?_; intro _ _) | refine zO ?_ | (apply Ws <;> intro hg))
      refine WC.loopX [(0, v)] (fun z : Nat × Nat => [(4, .int .i64 (z.1 : Int)), (3, .int .i64 (z.2 : Int))]) [] (fun z H' => H' = H ∧ z.1 ≤ l.length ∧ z.2 < l.length ∧ ∀ i, i < z.1 → l.getD i 0 ≤ l.getD z.2 0) (fun z => l.length - z.1) (0, 0) (by repeat' (first | exact .nil | refine .cons rfl ?_)) rfl ⟨rfl, Nat.zero_le _, by simp only; omega, fun i h => absurd h (Nat.not_lt_zero _)⟩ ?_
      rintro ⟨k, p⟩ H1 ⟨rfl, hk, hp, hmax⟩
      simp only at hk hp hmax
      dsimp only [List.cons_append, List.nil_append]
      repeat' (first | refine zP ?_ | refine zA ?_ | (refine zM ?_; intro _ _) | refine zX ?_ | (refine zC ?_; intro _ _ _ _) | (refine zS ?_; intro _ _) | (apply Ws <;> intro hg))
      refine WC.condP rfl (fun hlt => ?_) (fun hlt => ?_)
      · have hk' : k < l.length := by omega
        repeat' (first | refine zP ?_ | refine zA ?_ | (refine zM ?_; intro _ _) | refine zX ?_ | (refine zC ?_; intro _ _ _ _) | (refine zS ?_; intro _ _) | (apply Ws <;> intro hg))
        refine WC.condP rfl (fun hgt => ?_) (fun hgt => ?_)
        · repeat' (first | refine zP ?_ | refine zA ?_ | (refine zM ?_; intro _ _) | refine zX ?_ | (refine zC ?_; intro _ _ _ _) | (refine zS ?_; intro _ _) | (apply Ws <;> intro hg))
          refine Ends.loop (k + 1, k) (by simp only; omega) (by repeat' (first | exact .nil | refine .cons rfl ?_)) rfl ⟨rfl, hk', hk', fun i hi => ?_⟩
          simp only at hi ⊢
          rcases Nat.lt_or_ge i k with h | h
          · have := hmax i h; omega
          · rw [show i = k by omega]; exact Nat.le_refl _
        · repeat' (first | refine zP ?_ | refine zA ?_ | (refine zM ?_; intro _ _) | refine zX ?_ | (refine zC ?_; intro _ _ _ _) | (refine zS ?_; intro _ _) | (apply Ws <;> intro hg))
          refine Ends.loop (k + 1, p) (by simp only; omega) (by repeat' (first | exact .nil | refine .cons rfl ?_)) rfl ⟨rfl, hk', hp, fun i hi => ?_⟩
          simp only at hi ⊢
          rcases Nat.lt_or_ge i k with h | h
          · exact hmax i h
          · rw [show i = k by omega]; omega
      · have hmax2 : ∀ x ∈ l, x ≤ l.getD p 0 := fun x hx => by
          obtain ⟨i, hi, rfl⟩ := mem_get hx
          exact hmax i (by omega)
        clear hmax
        have hsplit : l = l.take p ++ l.getD p 0 :: l.drop (p + 1) := by rw [getD_eq hp, ← List.drop_eq_getElem_cons hp, List.take_append_drop]
        have hL : ∀ x ∈ l.take p, x < l.getD p 0 := fun x hx => by
          have h1 := hmax2 x ((List.take_sublist _ _).subset hx)
          obtain ⟨i, hi, he⟩ := mem_get hx
          simp only [List.length_take] at hi
          rw [getD_take (by omega)] at he
          have : x ≠ l.getD p 0 := fun e => by have := nodup_get hn (show i < l.length by omega) hp (he.trans e); omega
          omega
        have hR : ∀ x ∈ l.drop (p + 1), x < l.getD p 0 := fun x hx => by
          have h1 := hmax2 x ((List.drop_sublist _ _).subset hx)
          obtain ⟨i, q1, q2⟩ := mem_get hx
          simp only [List.length_drop] at q1
          rw [List.getD_eq_getElem?_getD, List.getElem?_drop, ← List.getD_eq_getElem?_getD] at q2
          have : x ≠ l.getD p 0 := fun e => by have := nodup_get hn (show p + 1 + i < l.length by omega) hp (q2.trans e); omega
          omega
        have hpass := passF_split hL hR
        rw [← hsplit] at hpass
        have hlt1 : (l.take p).length ≤ N := by rw [List.length_take]; omega
        have hld : (l.drop (p + 1)).length ≤ N := by rw [List.length_drop]; omega
        have hlt2 : (l.take p).length ≤ 10 := by rw [List.length_take]; omega
        have hld2 : (l.drop (p + 1)).length ≤ 10 := by rw [List.length_drop]; omega
        have hl1 := passF_len (l.take p)
        have hl2 := passF_len (l.drop (p + 1))
        have hv := hS.one_
        repeat' (first | refine zP ?_ | refine zA ?_ | (refine zM ?_; intro _ _) | refine zX ?_ | (refine zC ?_; intro _ _ _ _) | (refine zS ?_; intro _ _) | (apply Ws <;> intro hg))
        refine WR.cutHiN (by first | exact gN | exact gS rfl) rfl rfl hS rfl (by omega) fun v1 hs1 => ?_
        repeat' (first | refine zP ?_ | refine zA ?_ | (refine zM ?_; intro _ _) | refine zX ?_ | (refine zC ?_; intro _ _ _ _) | (refine zS ?_; intro _ _) | (apply Ws <;> intro hg))
        rw [show (p : Int) + 1 = ((p + 1 : Nat) : Int) by omega]
        refine WR.cutLoN (by first | exact gN | exact gS rfl) rfl rfl hS rfl (by omega) fun v2 hs2 => ?_
        refine WR.call (by first | exact gN | exact gS rfl) rfl rfl (ih hlt1 hH hs1 ((List.take_sublist _ _).nodup hn) hlt2) ?_
        rintro w1 H3 ⟨Mx, n3, hO3, hn3, hH3⟩
        refine WR.bldS (by first | exact gN | exact gS rfl) rfl hH3 (vs := []) rfl (cs := []) (by rfl) rfl fun H4 hH4 => ?_
        have hSw : Sl ([(n3, Ch.row 3 0 0 [])] ++ (Mx ++ M)) 1 w1 (nodes (passF (l.take p))) ∧ (passF (l.take p) = [] → w1 = .slice none 0 0) := by
          rcases hO3 with ⟨e1, rfl, rfl⟩ | ⟨e1, e2⟩
          · rw [e1]; exact ⟨.nil 0, fun _ => rfl⟩
          · refine ⟨(e2.own.sl []).mono fun q hq => by simp at hq; simp [hq], fun e => ?_⟩
            rw [e] at hl1; exact absurd (List.length_eq_zero_iff.1 hl1.symm) e1
        refine WR.appZS (xs := []) (T := Mx ++ M) (by first | exact gN | exact gS rfl) rfl rfl rfl OwnZ.empty hSw.1 hSw.2 hH4 (by simp) (by omega) fun w3 M3 n5 H5 hO5 hH5 hn5 => ?_
        rw [List.nil_append] at hO5
        clear hSw hH4 hH3 hO3
        refine WR.call (by first | exact gN | exact gS rfl) rfl rfl (ih hld hH5 (hs2.mono fun q hq => List.mem_append_right _ (List.mem_append_right _ hq)) ((List.drop_sublist _ _).nodup hn) hld2) ?_
        rintro w2 H6 ⟨My, n6, hO6, hn6, hH6⟩
        have hH7 : hasH (M3 ++ (My ++ (Mx ++ M))) n6 H6 := hH6.perm (List.perm_append_comm_assoc My M3 (Mx ++ M))
        have hSw : Sl (M3 ++ (My ++ (Mx ++ M))) 1 w2 (nodes (passF (l.drop (p + 1)))) ∧ (passF (l.drop (p + 1)) = [] → w2 = .slice none 0 0) := by
          rcases hO6 with ⟨e1, rfl, rfl⟩ | ⟨e1, e2⟩
          · rw [e1]; exact ⟨.nil 0, fun _ => rfl⟩
          · refine ⟨(e2.own.sl []).mono fun q hq => by simp at hq; simp [hq], fun e => ?_⟩
            rw [e] at hl2; exact absurd (List.length_eq_zero_iff.1 hl2.symm) e1
        refine WR.appZS (T := My ++ (Mx ++ M)) (by first | exact gN | exact gS rfl) rfl rfl rfl hO5 hSw.1 hSw.2 hH7 (by omega) (by omega) fun w7 M7 n7 H7 hO7 hH7 hn7 => ?_
        have hS7 : Sl (M7 ++ (My ++ (Mx ++ M))) 1 v (nodes l) := hS.mono fun q hq => by simp [hq]
        repeat' (first | refine zP ?_ | refine zA ?_ | (refine zM ?_; intro _ _) | refine zX ?_ | (refine zC ?_; intro _ _ _ _) | (refine zS ?_; intro _ _) | (apply Ws <;> intro hg))
        refine WR.app1Z rfl rfl rfl rfl hO7 hH7 rfl (by simp; omega) fun w8 M8 n8 H8 hO8 hH8 hn8 => ?_
        have hw8 := (hO8.own.sl []).one_
        repeat' (first | refine zP ?_ | refine zA ?_ | (refine zM ?_; intro _ _) | refine zX ?_ | (refine zC ?_; intro _ _ _ _) | (refine zS ?_; intro _ _) | (apply Ws <;> intro hg))
        refine Ends.ret1 rfl ⟨M8, n8, .inr ⟨fun e => h0 (by rw [e]; rfl), by rw [hpass]; exact hO8⟩, by omega, hH8.sub (List.Sublist.append_left ((List.sublist_append_right Mx M).trans (List.sublist_append_right My _)) _)⟩
set_option maxHeartbeats 1000000 in
theorem rpasses_fs (hH : hasH M n0 H) {o : List Nat} (ho : Sl M 1 v (nodes o)) (hO : OrdN o) :
    FS C 75 [v] H (fun e H' => ∃ (k : Nat) (n' : Nat), e = .int .i64 (k : Int) ∧ PassN o k ∧ n0 ≤ n' ∧ hasH M n' H') := by
  have h7 := hO.most
  have h1 := hO.one
  refine FS.intro (pf := pf75) rfl rfl rfl ?_
  repeat' (first | refine zP ?_ | refine zA ?_ | (refine zM ?_; intro _ _) | refine zX ?_ | (refine zC ?_; intro _ _ _ _) | (refine zS ?_; intro _ _) | (apply Ws <;> intro hg))
  refine WC.loopX [] (fun z : UZ => [(0, z.v), (3, .int .i64 (z.k : Int))]) [] (fun z H' => z.k ≤ o.length - 1 ∧ (∀ j, j < z.k → ascB (pit o j) = false) ∧ Sl (z.Mx ++ M) 1 z.v (nodes (pit o z.k)) ∧ n0 ≤ z.n ∧ hasH (z.Mx ++ M) z.n H') (fun z => o.length - z.k) ⟨0, v, [], n0⟩ (by repeat' (first | exact .nil | refine .cons rfl ?_)) rfl
    ⟨Nat.zero_le _, fun j h => absurd h (Nat.not_lt_zero _), ho, Nat.le_refl _, hH⟩ ?_
  clear hH ho
  rintro ⟨k, v, Mx, n1⟩ H1 ⟨hk, hno, hS, hn1, hH⟩
  simp only at hk hno hS hn1 hH
  obtain ⟨hp1, hp2⟩ := pit_ord hO k
  dsimp only [List.cons_append, List.nil_append]
  repeat' (first | refine zP ?_ | refine zA ?_ | (refine zM ?_; intro _ _) | refine zX ?_ | (refine zC ?_; intro _ _ _ _) | (refine zS ?_; intro _ _) | (apply Ws <;> intro hg))
  refine WR.call (by first | exact gN | exact gS rfl) rfl rfl (ascending_fs hH hS (by omega)) ?_
  rintro _ H2 ⟨rfl, rfl⟩
  rw [ascR_ord hp1]
  cases ha : ascB (pit o k) with
  | true =>
    repeat' (first | refine zP ?_ | refine zA ?_ | (refine zM ?_; intro _ _) | refine zX ?_ | (refine zC ?_; intro _ _ _ _) | (refine zS ?_; intro _ _) | (apply Ws <;> intro hg))
    exact Ends.ret1 rfl ⟨k, n1, rfl, ⟨hk, ha, hno⟩, hn1, hH.sub (List.sublist_append_right _ _)⟩
  | false =>
    have hk2 : k ≠ o.length - 1 := by
      rintro rfl
      rw [asc_last hO] at ha; cases ha
    repeat' (first | refine zP ?_ | refine zA ?_ | (refine zM ?_; intro _ _) | refine zX ?_ | (refine zC ?_; intro _ _ _ _) | (refine zS ?_; intro _ _) | (apply Ws <;> intro hg))
    refine WR.call (by first | exact gN | exact gS rfl) rfl rfl (rpass_fs 10 (by omega) hH hS hp1.nodup (by omega)) ?_
    rintro u H3 ⟨My, n3, hOw, hn3, hH3⟩
    have hSu : Sl (My ++ M) 1 u (nodes (pit o (k + 1))) := by
      rcases hOw with ⟨e1, _⟩ | ⟨_, e2⟩
      · rw [e1] at hp2; simp at hp2; omega
      · exact e2.own.sl M
    repeat' (first | refine zP ?_ | refine zA ?_ | (refine zM ?_; intro _ _) | refine zX ?_ | (refine zC ?_; intro _ _ _ _) | (refine zS ?_; intro _ _) | (apply Ws <;> intro hg))
    refine Ends.loop ⟨k + 1, u, My, n3⟩ (by simp only; omega) (by repeat' (first | exact .nil | refine .cons rfl ?_)) rfl ⟨by simp only; omega, fun j hj => ?_, hSu, by simp only; omega, hH3.sub (List.Sublist.append_left (List.sublist_append_right _ _) _)⟩
    simp only at hj
    by_cases e : j = k
    · rw [e]; exact ha
    · exact hno j (by omega)
end
end Go.Proofs.Ytfnflkcjhefddaa.Lk

/- The law LockCounts. -/
namespace Go.Proofs.Ytfnflkcjhefddaa.Lk
open Go Go.Abs Go.Mth
set_option linter.unusedVariables false
set_option linter.unusedSimpArgs false
def preK (n m : Nat) (b : List Nat) (k : Nat) : List (List Nat) := (((List.range n).take k).filter (newF b)).flatMap fun x => extL n newF m (b ++ [x])
theorem preK_step {n k : Nat} (m : Nat) (b : List Nat) (h : k < n) : preK n m b (k + 1) = preK n m b k ++ if newF b k = true then extL n newF m (b ++ [k]) else [] := by
  unfold preK
  rw [List.take_range, List.take_range, Nat.min_eq_left (by omega), Nat.min_eq_left (by omega), List.range_succ, List.filter_append, List.flatMap_append]
  congr 1
  by_cases hf : newF b k = true
  · rw [if_pos hf, List.filter_cons_of_pos hf]; simp
  · rw [if_neg hf, List.filter_cons_of_neg hf]; rfl
theorem preK_all (n m : Nat) (b : List Nat) : preK n m b n = extL n newF (m + 1) b := by
  unfold preK; rw [List.take_of_length_le (by simp)]; rfl
theorem preK_len {n k m : Nat} (b : List Nat) (h : k ≤ n) (h7 : n ≤ 7) (hm : m + 1 ≤ 7) : (preK n m b k).length ≤ 823543 := by
  have key : ∀ (W : List Nat), (W.flatMap fun x => extL n newF m (b ++ [x])).length ≤ W.length * n ^ m := by
    intro W
    induction W with
    | nil => simp
    | cons x W ih =>
      have := ext_len n newF m (b ++ [x])
      rw [List.flatMap_cons, List.length_append, List.length_cons, Nat.succ_mul]; omega
  refine Nat.le_trans (key _) ?_
  have h1 : (((List.range n).take k).filter (newF b)).length ≤ 7 := by
    refine Nat.le_trans (List.length_filter_le _ _) ?_
    simp; omega
  have h2 : n ^ m ≤ 7 ^ 6 := Nat.le_trans (Nat.pow_le_pow_left h7 m) (Nat.pow_le_pow_right (by decide) (by omega))
  exact Nat.le_trans (Nat.mul_le_mul h1 h2) (by decide)
structure CX where
  k : Nat
  n : Nat
attribute [local irreducible] gOK WS WC WR WD Ends FS YS OpV seqK blockK loopK midK retK rdK asgK rangeEnd sat Cell
section
variable {M : HL} {n0 : Nat} {H : Heap} {v w : Value}
set_option maxHeartbeats 2000000 in
theorem rcount_fs {n : Nat} (hn1 : 1 ≤ n) (hn7 : n ≤ 7) {p : Int} (hp : 0 ≤ p) : ∀ (m : Nat) {M : HL} {n0 : Nat} {H : Heap} {v : Value} {b : List Nat}, b.length + m = n → b.Nodup → (∀ x ∈ b, x < n) → hasH M n0 H → Sl M 1 v (nodes b) → (b = [] → v = .slice none 0 0) →
    FS C 79 [.int .i64 (n : Int), .int .i64 p, v] H (fun e H' => ∃ n', e = .int .i64 (((extL n newF m b).filter (enoughB p)).length : Nat) ∧ n0 ≤ n' ∧ hasH M n' H') := by
  intro m
  induction m with
  | zero =>
    intro M n0 H v b hl hnd hlt hH hS hnil
    have hv := hS.one_
    have hob : OrdN b := ⟨by omega, by omega, fun x hx => by have := hlt x hx; omega, hnd⟩
    have hfl : ((extL n newF 0 b).filter (enoughB p)).length = if enoughB p b = true then 1 else 0 := by
      simp only [extL]
      by_cases h : enoughB p b = true
      · rw [if_pos h, List.filter_cons_of_pos h]; rfl
      · rw [if_neg h, List.filter_cons_of_neg h]; rfl
    refine FS.intro (pf := pf79) rfl rfl rfl ?_
    repeat' (first | refine zP ?_ | refine zA ?_ | (refine zM ?_; intro _ _) | refine zX ?_ | (refine zC ?_; intro _ _ _ _) | (refine zS ?_; intro _ _) | refine zO ?_ | (apply Ws <;> intro hg))
    refine WR.call (by first | exact gN | exact gS rfl) rfl rfl (rpasses_fs hH hS hob) ?_
    rintro _ H2 ⟨k, n2, rfl, hP, hn2, hH2⟩
    rw [hP.enough hob hp] at hfl
    by_cases hkp : (k : Int) ≤ p
    · rw [if_pos (decide_eq_true hkp)] at hfl
      repeat' (first | refine zP ?_ | refine zA ?_ | (refine zM ?_; intro _ _) | refine zX ?_ | (refine zC ?_; intro _ _ _ _) | (refine zS ?_; intro _ _) | refine zO ?_ | (apply Ws <;> intro hg))
      exact Ends.ret1 rfl ⟨n2, by rw [hfl]; rfl, hn2, hH2⟩
    · rw [if_neg (by rw [decide_eq_false hkp]; decide)] at hfl
      repeat' (first | refine zP ?_ | refine zA ?_ | (refine zM ?_; intro _ _) | refine zX ?_ | (refine zC ?_; intro _ _ _ _) | (refine zS ?_; intro _ _) | refine zO ?_ | (apply Ws <;> intro hg))
      exact Ends.ret1 rfl ⟨n2, by rw [hfl]; rfl, hn2, hH2⟩
  | succ m ih =>
    intro M n0 H v b hl hnd hlt hH hS hnil
    have hv := hS.one_
    refine FS.intro (pf := pf79) rfl rfl rfl ?_
    repeat' (first | refine zP ?_ | refine zA ?_ | (refine zM ?_; intro _ _) | refine zX ?_ | (refine zC ?_; intro _ _ _ _) | (refine zS ?_; intro _ _) | refine zO ?_ | (apply Ws <;> intro hg))
    refine WC.loopX [(0, _), (1, _), (2, v)] (fun z : CX => [(8, .int .i64 (z.k : Int)), (7, .int .i64 (((preK n m b z.k).filter (enoughB p)).length : Nat))]) [] (fun z H' => z.k ≤ n ∧ n0 ≤ z.n ∧ hasH M z.n H') (fun z => n - z.k) ⟨0, n0⟩ (by repeat' (first | exact .nil | refine .cons rfl ?_)) rfl ⟨Nat.zero_le _, Nat.le_refl _, hH⟩ ?_
    clear hH
    rintro ⟨k, n1⟩ H1 ⟨hk, hn1', hH⟩
    simp only at hk hn1' hH
    dsimp only [List.cons_append, List.nil_append]
    repeat' (first | refine zP ?_ | refine zA ?_ | (refine zM ?_; intro _ _) | refine zX ?_ | (refine zC ?_; intro _ _ _ _) | (refine zS ?_; intro _ _) | (apply Ws <;> intro hg))
    refine WC.condP rfl (fun hlt2 => ?_) (fun hlt2 => ?_)
    · have hk' : k < n := by omega
      have hst := preK_step (n := n) m b hk'
      have hb1 := preK_len (m := m) b hk hn7 (by omega)
      have hb2 := preK_len (m := m) b (show k + 1 ≤ n by omega) hn7 (by omega)
      have hc1 : ((preK n m b k).filter (enoughB p)).length ≤ 823543 := Nat.le_trans (List.length_filter_le _ _) hb1
      repeat' (first | refine zP ?_ | refine zA ?_ | (refine zM ?_; intro _ _) | refine zX ?_ | (refine zC ?_; intro _ _ _ _) | (refine zS ?_; intro _ _) | (apply Ws <;> intro hg))
      refine WR.call (by first | exact gN | exact gS rfl) rfl rfl (placeN_fs hH hS (by omega) k) ?_
      rintro _ H2 ⟨rfl, q, rfl, hq, hq1, hq2⟩
      by_cases hkb : k ∈ b
      · have hnf : newF b k = false := by unfold newF; rw [decide_eq_true hkb]; rfl
        rw [hnf, if_neg (by decide), List.append_nil] at hst
        have hq0 : ¬ q < 0 := fun h => hq.1 h hkb
        repeat' (first | refine zP ?_ | refine zA ?_ | (refine zM ?_; intro _ _) | refine zX ?_ | (refine zC ?_; intro _ _ _ _) | (refine zS ?_; intro _ _) | refine zO ?_ | (apply Ws <;> intro hg))
        exact Ends.loop ⟨k + 1, n1⟩ (by simp only; omega) (by rw [hst]; exact (by repeat' (first | exact .nil | refine .cons rfl ?_))) rfl ⟨hk', hn1', hH⟩
      · have hnf : newF b k = true := by unfold newF; rw [decide_eq_false hkb]; rfl
        rw [hnf, if_pos rfl] at hst
        have hq0 : q < 0 := hq.2 hkb
        repeat' (first | refine zP ?_ | refine zA ?_ | (refine zM ?_; intro _ _) | refine zX ?_ | (refine zC ?_; intro _ _ _ _) | (refine zS ?_; intro _ _) | refine zO ?_ | (apply Ws <;> intro hg))
        refine WR.bldS (by first | exact gN | exact gS rfl) rfl hH (vs := []) rfl (cs := []) (by rfl) rfl fun H3 hH3 => ?_
        repeat' (first | refine zP ?_ | refine zA ?_ | (refine zM ?_; intro _ _) | refine zX ?_ | (refine zC ?_; intro _ _ _ _) | (refine zS ?_; intro _ _) | (apply Ws <;> intro hg))
        refine WR.appZS (xs := []) (Mx := [(n1, Ch.row 3 0 0 [])]) (T := M) (by first | exact gN | exact gS rfl) rfl rfl rfl OwnZ.empty (hS.cons) hnil hH3 (by simp) (by omega) fun w3 M3 n5 H5 hO5 hH5 hn5 => ?_
        rw [List.nil_append] at hO5
        repeat' (first | refine zP ?_ | refine zA ?_ | (refine zM ?_; intro _ _) | refine zX ?_ | (refine zC ?_; intro _ _ _ _) | (refine zS ?_; intro _ _) | (apply Ws <;> intro hg))
        refine WR.app1Z rfl rfl rfl rfl hO5 hH5 rfl (by omega) fun w8 M8 n8 H8 hO8 hH8 hn8 => ?_
        have hl2 : (b ++ [k]).length + m = n := by rw [List.length_append, List.length_singleton]; omega
        refine WR.call (by first | exact gN | exact gS rfl) rfl rfl (ih hl2 ?_ ?_ hH8 (hO8.own.sl M) (fun h => by simp at h)) ?_
        · rw [List.nodup_append]
          refine ⟨hnd, by simp, fun a ha c hc => ?_⟩
          rw [List.mem_singleton.1 hc]
          rintro rfl; exact hkb ha
        · intro y hy
          rcases List.mem_append.1 hy with h | h
          · exact hlt y h
          · rw [List.mem_singleton.1 h]; exact hk'
        rintro _ H9 ⟨n9, rfl, hn9, hH9⟩
        have hsum : ((preK n m b (k + 1)).filter (enoughB p)).length = ((preK n m b k).filter (enoughB p)).length + ((extL n newF m (b ++ [k])).filter (enoughB p)).length := by rw [hst, List.filter_append, List.length_append]
        have hc2 : ((preK n m b (k + 1)).filter (enoughB p)).length ≤ 823543 := Nat.le_trans (List.length_filter_le _ _) hb2
        repeat' (first | refine zP ?_ | refine zA ?_ | (refine zM ?_; intro _ _) | refine zX ?_ | (refine zC ?_; intro _ _ _ _) | (refine zS ?_; intro _ _) | (apply Ws <;> intro hg))
        refine Ends.loop ⟨k + 1, n9⟩ (by simp only; omega) ?_ rfl ⟨hk', by simp only; omega, hH9.sub (List.sublist_append_right _ _)⟩
        simp only [hsum, Int.natCast_add]
        exact (by repeat' (first | exact .nil | refine .cons rfl ?_))
    · have hkn : k = n := by omega
      subst hkn
      rw [preK_all]
      repeat' (first | refine zP ?_ | refine zA ?_ | (refine zM ?_; intro _ _) | refine zX ?_ | (refine zC ?_; intro _ _ _ _) | (refine zS ?_; intro _ _) | (apply Ws <;> intro hg))
      exact Ends.ret1 rfl ⟨n1, rfl, hn1', hH⟩
theorem rCount_fs (hH : hasH M n0 H) (n p : Int) :
    FS C 34 [.int .i64 n, .int .i64 p] H (fun e H' => ∃ n', cntR n p e ∧ n0 ≤ n' ∧ hasH M n' H') := by
  refine FS.intro (pf := pf34) rfl rfl rfl ?_
  repeat' (first | refine zP ?_ | refine zA ?_ | (refine zM ?_; intro _ _) | refine zX ?_ | (refine zC ?_; intro _ _ _ _) | (refine zS ?_; intro _ _) | (apply Ws <;> intro hg))
  refine WR.call (by first | exact gN | exact gS rfl) rfl rfl (rin_fs _ _ _ _) ?_
  rintro _ _ ⟨rfl, rfl⟩
  by_cases hin : 1 ≤ n ∧ n ≤ 7
  · rw [decide_eq_true hin]
    by_cases hp : p < 0
    · have hb : badC n p := by unfold badC; omega
      repeat' (first | refine zP ?_ | refine zA ?_ | (refine zM ?_; intro _ _) | refine zX ?_ | (refine zC ?_; intro _ _ _ _) | (refine zS ?_; intro _ _) | refine zO ?_ | (apply Ws <;> intro hg))
      exact Ends.ret2 rfl rfl ⟨n0, .inl ⟨hb, rfl⟩, Nat.le_refl _, hH⟩
    · have hb : ¬ badC n p := by unfold badC; omega
      obtain ⟨n, rfl⟩ : ∃ m : Nat, n = m := ⟨n.toNat, by omega⟩
      repeat' (first | refine zP ?_ | refine zA ?_ | (refine zM ?_; intro _ _) | refine zX ?_ | (refine zC ?_; intro _ _ _ _) | (refine zS ?_; intro _ _) | refine zO ?_ | (apply Ws <;> intro hg))
      refine WR.call (by first | exact gN | exact gS rfl) rfl rfl (rcount_fs (n := n) (by omega) (by omega) (by omega) n (b := []) (by simp) List.nodup_nil (fun x hx => by cases hx) hH (.nil 0) (fun _ => rfl)) ?_
      rintro _ H2 ⟨n2, rfl, hn2, hH2⟩
      repeat' (first | refine zP ?_ | refine zA ?_ | (refine zM ?_; intro _ _) | refine zX ?_ | (refine zC ?_; intro _ _ _ _) | (refine zS ?_; intro _ _) | (apply Ws <;> intro hg))
      exact Ends.ret2 rfl rfl ⟨n2, .inr ⟨hb, rfl⟩, hn2, hH2⟩
  · rw [decide_eq_false hin]
    have hb : badC n p := by unfold badC; omega
    repeat' (first | refine zP ?_ | refine zA ?_ | (refine zM ?_; intro _ _) | refine zX ?_ | (refine zC ?_; intro _ _ _ _) | (refine zS ?_; intro _ _) | refine zO ?_ | (apply Ws <;> intro hg))
    exact Ends.ret2 rfl rfl ⟨n0, .inl ⟨hb, rfl⟩, Nat.le_refl _, hH⟩
theorem LockCounts_fs (hH : hasH M n0 H) (n p : Int) :
    FS C 5 [.int .i64 n, .int .i64 p] H (fun e H' => e = .bool true) := by
  have hfin : ∀ {H' : Heap}, FS C 15 [] H' (fun e H'' => e = .bool true ∧ H'' = H') := fun {H'} => FS.works ⟨rfl, rfl⟩
  have key : ∀ {H1 : Heap} {M1 : HL} {n1 : Nat}, hasH M1 n1 H1 → ∃ x y, FS C 33 [.int .i64 n, .int .i64 p] H1 (fun e H' => ∃ M2 n', e = .tuple #[.int .i64 x, .int .i64 y] ∧ hasH M2 n' H') ∧ ∀ {H2 : Heap} {M2 : HL} {n2 : Nat}, hasH M2 n2 H2 → FS C 34 [.int .i64 n, .int .i64 p] H2 (fun e H' => e = .tuple #[.int .i64 x, .int .i64 y]) := by
    intro H1 M1 n1 h1
    by_cases hb : badC n p
    · refine ⟨0, 1, (Count_fs h1 n p).mono ?_, fun h2 => (rCount_fs h2 n p).mono ?_⟩
      · rintro e H' ⟨M2, n', (⟨_, h⟩ | ⟨h, _⟩), _, h5⟩
        · exact ⟨_, n', h, h5⟩
        · exact absurd hb h
      · rintro e H' ⟨n', (⟨_, h⟩ | ⟨h, _⟩), _⟩
        · exact h
        · exact absurd hb h
    · refine ⟨(cntO n.toNat p : Int), 0, (Count_fs h1 n p).mono ?_, fun h2 => (rCount_fs h2 n p).mono ?_⟩
      · rintro e H' ⟨M2, n', (⟨h, _⟩ | ⟨_, h⟩), _, h5⟩
        · exact absurd h hb
        · exact ⟨_, n', h, h5⟩
      · rintro e H' ⟨n', (⟨h, _⟩ | ⟨_, h⟩), _⟩
        · exact absurd h hb
        · exact h
  obtain ⟨x, y, hc1, hc2⟩ := key hH
  refine FS.intro (pf := pf5) rfl rfl rfl ?_
  by_cases hs : n = 7 ∧ 2 < p ∧ p < 6
  · obtain ⟨h1, h2, h3⟩ := hs
    repeat' (first | refine zP ?_ | refine zA ?_ | (refine zM ?_; intro _ _) | refine zX ?_ | (refine zC ?_; intro _ _ _ _) | (refine zS ?_; intro _ _) | refine zO ?_ | (apply Ws <;> intro hg))
    refine WR.call (by first | exact gN | exact gS rfl) rfl rfl hfin ?_
    rintro _ _ ⟨rfl, rfl⟩
    repeat' (first | refine zP ?_ | refine zA ?_ | (refine zM ?_; intro _ _) | refine zX ?_ | (refine zC ?_; intro _ _ _ _) | (refine zS ?_; intro _ _) | (apply Ws <;> intro hg))
    exact Ends.ret1 rfl rfl
  · by_cases h7 : n = 7
    · by_cases h2 : 2 < p
      · have h6 : ¬ p < 6 := fun h => hs ⟨h7, h2, h⟩
        repeat' (first | refine zP ?_ | refine zA ?_ | (refine zM ?_; intro _ _) | refine zX ?_ | (refine zC ?_; intro _ _ _ _) | (refine zS ?_; intro _ _) | refine zO ?_ | (apply Ws <;> intro hg))
        refine WR.call (by first | exact gN | exact gS rfl) rfl rfl hc1 ?_
        rintro _ H2 ⟨M2, n2, rfl, hH2⟩
        repeat' (first | refine zP ?_ | refine zA ?_ | (refine zM ?_; intro _ _) | refine zX ?_ | (refine zC ?_; intro _ _ _ _) | (refine zS ?_; intro _ _) | (apply Ws <;> intro hg))
        refine WR.call (by first | exact gN | exact gS rfl) rfl rfl (hc2 hH2) ?_
        rintro _ H3 rfl
        repeat' (first | refine zP ?_ | refine zA ?_ | (refine zM ?_; intro _ _) | refine zX ?_ | (refine zC ?_; intro _ _ _ _) | (refine zS ?_; intro _ _) | refine zO ?_ | (apply Ws <;> intro hg))
        refine WR.call (by first | exact gN | exact gS rfl) rfl rfl hfin ?_
        rintro _ _ ⟨rfl, rfl⟩
        repeat' (first | refine zP ?_ | refine zA ?_ | (refine zM ?_; intro _ _) | refine zX ?_ | (refine zC ?_; intro _ _ _ _) | (refine zS ?_; intro _ _) | (apply Ws <;> intro hg))
        exact Ends.ret1 rfl rfl
      · repeat' (first | refine zP ?_ | refine zA ?_ | (refine zM ?_; intro _ _) | refine zX ?_ | (refine zC ?_; intro _ _ _ _) | (refine zS ?_; intro _ _) | refine zO ?_ | (apply Ws <;> intro hg))
        refine WR.call (by first | exact gN | exact gS rfl) rfl rfl hc1 ?_
        rintro _ H2 ⟨M2, n2, rfl, hH2⟩
        repeat' (first | refine zP ?_ | refine zA ?_ | (refine zM ?_; intro _ _) | refine zX ?_ | (refine zC ?_; intro _ _ _ _) | (refine zS ?_; intro _ _) | (apply Ws <;> intro hg))
        refine WR.call (by first | exact gN | exact gS rfl) rfl rfl (hc2 hH2) ?_
        rintro _ H3 rfl
        repeat' (first | refine zP ?_ | refine zA ?_ | (refine zM ?_; intro _ _) | refine zX ?_ | (refine zC ?_; intro _ _ _ _) | (refine zS ?_; intro _ _) | refine zO ?_ | (apply Ws <;> intro hg))
        refine WR.call (by first | exact gN | exact gS rfl) rfl rfl hfin ?_
        rintro _ _ ⟨rfl, rfl⟩
        repeat' (first | refine zP ?_ | refine zA ?_ | (refine zM ?_; intro _ _) | refine zX ?_ | (refine zC ?_; intro _ _ _ _) | (refine zS ?_; intro _ _) | (apply Ws <;> intro hg))
        exact Ends.ret1 rfl rfl
    · repeat' (first | refine zP ?_ | refine zA ?_ | (refine zM ?_; intro _ _) | refine zX ?_ | (refine zC ?_; intro _ _ _ _) | (refine zS ?_; intro _ _) | refine zO ?_ | (apply Ws <;> intro hg))
      refine WR.call (by first | exact gN | exact gS rfl) rfl rfl hc1 ?_
      rintro _ H2 ⟨M2, n2, rfl, hH2⟩
      repeat' (first | refine zP ?_ | refine zA ?_ | (refine zM ?_; intro _ _) | refine zX ?_ | (refine zC ?_; intro _ _ _ _) | (refine zS ?_; intro _ _) | (apply Ws <;> intro hg))
      refine WR.call (by first | exact gN | exact gS rfl) rfl rfl (hc2 hH2) ?_
      rintro _ H3 rfl
      repeat' (first | refine zP ?_ | refine zA ?_ | (refine zM ?_; intro _ _) | refine zX ?_ | (refine zC ?_; intro _ _ _ _) | (refine zS ?_; intro _ _) | refine zO ?_ | (apply Ws <;> intro hg))
      refine WR.call (by first | exact gN | exact gS rfl) rfl rfl hfin ?_
      rintro _ _ ⟨rfl, rfl⟩
      repeat' (first | refine zP ?_ | refine zA ?_ | (refine zM ?_; intro _ _) | refine zX ?_ | (refine zC ?_; intro _ _ _ _) | (refine zS ?_; intro _ _) | (apply Ws <;> intro hg))
      exact Ends.ret1 rfl rfl
end
end Go.Proofs.Ytfnflkcjhefddaa.Lk
