/- Texts of the law, joined. -/
import Derived.Test.YtfnflkcjhefddaaJ2
import Derived.Test.YtfnflkcjhefddaaSymZ
import Derived.Test.YtfnflkcjhefddaaJ1
import Derived.Test.YtfnflkcjhefddaaSymD
/- The reference's functions. -/
namespace Go.Proofs.Ytfnflkcjhefddaa.Lk
open Go Go.Abs Go.Mth
set_option linter.unusedVariables false
set_option linter.unusedSimpArgs false
def ascR (l : List Nat) : Bool := decide (l = List.range l.length)
theorem ascR_ord {l : List Nat} (h : OrdN l) : ascR l = ascB l := by
  have := asc_range h
  unfold ascR
  cases hb : ascB l with
  | true => rw [decide_eq_true (this.1 hb)]
  | false => rw [decide_eq_false fun e => by rw [this.2 e] at hb; cases hb]
structure UZ where
  k : Nat
  v : Value
  Mx : HL
  n : Nat
attribute [local irreducible] gOK WS WC WR WD Ends FS YS OpV seqK blockK loopK midK retK rdK asgK rangeEnd sat Cell
section
variable {M : HL} {n0 : Nat} {H : Heap} {v w : Value}
theorem rin_fs (a lo hi : Int) (H : Heap) : FS C 69 [.int .i64 a, .int .i64 lo, .int .i64 hi] H (fun e H' => e = .bool (decide (lo ≤ a ∧ a ≤ hi)) ∧ H' = H) := by
  refine FS.intro (pf := pf69) rfl rfl rfl ?_
  repeat' (first | refine zP ?_ | refine zA ?_ | (refine zM ?_; intro _ _) | refine zX ?_ | (refine zC ?_; intro _ _ _ _) | (refine zS ?_; intro _ _) | (apply Ws <;> intro hg))
  · exact Ends.ret1 rfl ⟨by congr 1; rw [decide_eq_decide]; omega, rfl⟩
  · exact Ends.ret1 rfl ⟨by rw [decide_eq_false (by omega)], rfl⟩
theorem place_fs (hH : hasH M n0 H) {xs : List Int} (hS : Sl M 1 v (ints xs)) (hx : xs.length ≤ 100000) (a : Int) :
    FS C 70 [v, .int .i64 a] H (fun e H' => H' = H ∧ ((∃ k, k < xs.length ∧ xs.getD k 0 = a ∧ (∀ j, j < k → xs.getD j 0 ≠ a) ∧ e = .int .i64 (k : Int)) ∨ (a ∉ xs ∧ e = .int .i64 (-1)))) := by
  refine FS.intro (pf := pf70) rfl rfl rfl ?_
  repeat' (first | refine zP ?_ | refine zA ?_ | (refine zM ?_; intro _ _) | refine zX ?_ | (refine zC ?_; intro _ _ _ _) | (refine zS ?_; intro _ _) | (apply Ws <;> intro hg))
  refine WC.loopX [(0, _), (1, _)] (fun k : Nat => [(5, .int .i64 (k : Int))]) [] (fun k H' => H' = H ∧ k ≤ xs.length ∧ ∀ j, j < k → xs.getD j 0 ≠ a) (fun k => xs.length - k) 0 (by repeat' (first | exact .nil | refine .cons rfl ?_)) rfl ⟨rfl, Nat.zero_le _, fun j h => absurd h (Nat.not_lt_zero _)⟩ ?_
  rintro k H' ⟨rfl, hk, hno⟩
  dsimp only [List.cons_append, List.nil_append]
  repeat' (first | refine zP ?_ | refine zA ?_ | (refine zM ?_; intro _ _) | refine zX ?_ | (refine zC ?_; intro _ _ _ _) | (refine zS ?_; intro _ _) | (apply Ws <;> intro hg))
  refine WC.condP rfl (fun hlt => ?_) (fun hlt => ?_)
  · have hk' : k < xs.length := by omega
    repeat' (first | refine zP ?_ | refine zA ?_ | (refine zM ?_; intro _ _) | refine zX ?_ | (refine zC ?_; intro _ _ _ _) | (refine zS ?_; intro _ _) | (apply Ws <;> intro hg))
    refine WC.condP rfl (fun h => ?_) (fun h => ?_)
    · repeat' (first | refine zP ?_ | refine zA ?_ | (refine zM ?_; intro _ _) | refine zX ?_ | (refine zC ?_; intro _ _ _ _) | (refine zS ?_; intro _ _) | (apply Ws <;> intro hg))
      exact Ends.ret1 rfl ⟨rfl, .inl ⟨k, hk', h, hno, rfl⟩⟩
    · repeat' (first | refine zP ?_ | refine zA ?_ | (refine zM ?_; intro _ _) | refine zX ?_ | (refine zC ?_; intro _ _ _ _) | (refine zS ?_; intro _ _) | (apply Ws <;> intro hg))
      refine Ends.loop (k + 1) (by omega) (by repeat' (first | exact .nil | refine .cons rfl ?_)) rfl ⟨rfl, hk', fun j hj => ?_⟩
      rcases Nat.lt_or_ge j k with h2 | h2
      · exact hno j h2
      · rw [show j = k by omega]; exact h
  · repeat' (first | refine zP ?_ | refine zA ?_ | (refine zM ?_; intro _ _) | refine zX ?_ | (refine zC ?_; intro _ _ _ _) | (refine zS ?_; intro _ _) | (apply Ws <;> intro hg))
    refine Ends.ret1 rfl ⟨rfl, .inr ⟨fun hm => ?_, rfl⟩⟩
    obtain ⟨j, hj, he⟩ := List.mem_iff_getElem.1 hm
    exact hno j (by omega) (by rw [getD_eq hj]; exact he)
theorem ascending_fs (hH : hasH M n0 H) {l : List Nat} (hS : Sl M 1 v (nodes l)) (hl : l.length ≤ 1000) :
    FS C 102 [v] H (fun e H' => e = .bool (ascR l) ∧ H' = H) := by
  refine FS.intro (pf := pf102) rfl rfl rfl ?_
  repeat' (first | refine zP ?_ | refine zA ?_ | (refine zM ?_; intro _ _) | refine zX ?_ | (refine zC ?_; intro _ _ _ _) | (refine zS ?_; intro _ _) | (apply Ws <;> intro hg))
  refine WC.loopX [(0, _)] (fun k : Nat => [(3, .int .i64 (k : Int))]) [] (fun k H' => H' = H ∧ k ≤ l.length ∧ ∀ i, i < k → l.getD i 0 = i) (fun k => l.length - k) 0 (by repeat' (first | exact .nil | refine .cons rfl ?_)) rfl ⟨rfl, Nat.zero_le _, fun i h => absurd h (Nat.not_lt_zero _)⟩ ?_
  rintro k _ ⟨rfl, hk, hall⟩
  dsimp only [List.cons_append, List.nil_append]
  repeat' (first | refine zP ?_ | refine zA ?_ | (refine zM ?_; intro _ _) | refine zX ?_ | (refine zC ?_; intro _ _ _ _) | (refine zS ?_; intro _ _) | (apply Ws <;> intro hg))
  refine WC.condP rfl (fun hlt => ?_) (fun hlt => ?_)
  · have hk' : k < l.length := by omega
    repeat' (first | refine zP ?_ | refine zA ?_ | (refine zM ?_; intro _ _) | refine zX ?_ | (refine zC ?_; intro _ _ _ _) | (refine zS ?_; intro _ _) | (apply Ws <;> intro hg))
    refine WC.condP rfl (fun hne => ?_) (fun hne => ?_)
    · repeat' (first | refine zP ?_ | refine zA ?_ | (refine zM ?_; intro _ _) | refine zX ?_ | (refine zC ?_; intro _ _ _ _) | (refine zS ?_; intro _ _) | (apply Ws <;> intro hg))
      refine Ends.ret1 rfl ⟨?_, rfl⟩
      unfold ascR
      rw [decide_eq_false fun e => ?_]
      have : l.getD k 0 = k := by
        rw [e, getD_eq (by simpa using hk'), List.getElem_range]
      omega
    · repeat' (first | refine zP ?_ | refine zA ?_ | (refine zM ?_; intro _ _) | refine zX ?_ | (refine zC ?_; intro _ _ _ _) | (refine zS ?_; intro _ _) | (apply Ws <;> intro hg))
      refine Ends.loop (k + 1) (by omega) (by repeat' (first | exact .nil | refine .cons rfl ?_)) rfl ⟨rfl, hk', fun i hi => ?_⟩
      rcases Nat.lt_or_ge i k with h | h
      · exact hall i h
      · rw [show i = k by omega]; omega
  · repeat' (first | refine zP ?_ | refine zA ?_ | (refine zM ?_; intro _ _) | refine zX ?_ | (refine zC ?_; intro _ _ _ _) | (refine zS ?_; intro _ _) | (apply Ws <;> intro hg))
    refine Ends.ret1 rfl ⟨?_, rfl⟩
    unfold ascR
    rw [decide_eq_true (ext_getD (a := 0) (by simp) fun i hi => ?_)]
    rw [hall i (by omega), getD_eq (by simpa using hi), List.getElem_range]
set_option maxHeartbeats 4000000 in
theorem rpass_fs : ∀ (N : Nat) {M : HL} {n0 : Nat} {H : Heap} {v : Value} {l : List Nat}, l.length ≤ N → hasH M n0 H → Sl M 1 v (nodes l) → l.Nodup → l.length ≤ 10 →
    FS C 62 [v] H (fun e H' => ∃ Mx n', ((l = [] ∧ e = .slice none 0 0 ∧ Mx = []) ∨ (l ≠ [] ∧ OwnR 3 1 e (nodes (passF l)) Mx)) ∧ n0 ≤ n' ∧ hasH (Mx ++ M) n' H') := by
  intro N
  induction N with
  | zero =>
    intro M n0 H v l hN hH hS hn h10
    have hl : l = [] := List.length_eq_zero_iff.1 (by omega)
    subst hl
    have hl0 : ([] : List Nat).length = 0 := rfl
    refine FS.intro (pf := pf62) rfl rfl rfl ?_
    repeat' (first | refine zP ?_ | refine zA ?_ | (refine zM ?_; intro _ _) | refine zX ?_ | (refine zC ?_; intro _ _ _ _) | (refine zS ?_; intro _ _) | refine zO ?_ | (apply Ws <;> intro hg))
    exact Ends.ret1 rfl ⟨[], n0, .inl ⟨rfl, rfl, rfl⟩, Nat.le_refl _, hH⟩
  | succ N ih =>
    intro M n0 H v l hN hH hS hn h10
    by_cases h0 : l.length = 0
    · have hl : l = [] := List.length_eq_zero_iff.1 h0
      subst hl
      have hl0 : ([] : List Nat).length = 0 := rfl
      refine FS.intro (pf := pf62) rfl rfl rfl ?_
      repeat' (first | refine zP ?_ | refine zA ?_ | (refine zM ?_; intro _ _) | refine zX ?_ | (refine zC ?_; intro _ _ _ _) | (refine zS ?_; intro _ _) | refine zO ?_ | (apply Ws <;> intro hg))
      exact Ends.ret1 rfl ⟨[], n0, .inl ⟨rfl, rfl, rfl⟩, Nat.le_refl _, hH⟩
    · refine FS.intro (pf := pf62) rfl rfl rfl ?_
      repeat' (first | refine zP ?_ | refine zA ?_ | (refine zM ?_; intro _ _) | refine zX ?_ | (refine zC ?_; intro _ _ _ _) | (refine zS ?_; intro _ _) | refine zO ?_ | (apply Ws <;> intro hg))
      refine WC.loopX [(0, v)] (fun z : Nat × Nat => [(4, .int .i64 (z.1 : Int)), (3, .int .i64 (z.2 : Int))]) [] (fun z H' => H' = H ∧ z.1 ≤ l.length ∧ z.2 < l.length ∧ ∀ i, i < z.1 → l.getD i 0 ≤ l.getD z.2 0) (fun z => l.length - z.1) (0, 0) (by repeat' (first | exact .nil | refine .cons rfl ?_)) rfl ⟨rfl, Nat.zero_le _, by simp only; omega, fun i h => absurd h (Nat.not_lt_zero _)⟩ ?_
      rintro ⟨k, p⟩ H1 ⟨rfl, hk, hp, hmax⟩
      simp only at hk hp hmax
      dsimp only [List.cons_append, List.nil_append]
      repeat' (first | refine zP ?_ | refine zA ?_ | (refine zM ?_; intro _ _) | refine zX ?_ | (refine zC ?_; intro _ _ _ _) | (refine zS ?_; intro _ _) | (apply Ws <;> intro hg))
      refine WC.condP rfl (fun hlt => ?_) (fun hlt => ?_)
      · have hk' : k < l.length := by omega
        repeat' (first | refine zP ?_ | refine zA ?_ | (refine zM ?_; intro _ _) | refine zX ?_ | (refine zC ?_; intro _ _ _ _) | (refine zS ?_; intro _ _) | (apply Ws <;> intro hg))
        refine WC.condP rfl (fun hgt => ?_) (fun hgt => ?_)
        · repeat' (first | refine zP ?_ | refine zA ?_ | (refine zM ?_; intro _ _) | refine zX ?_ | (refine zC ?_; intro _ _ _ _) | (refine zS ?_; intro _ _) | (apply Ws <;> intro hg))
          refine Ends.loop (k + 1, k) (by simp only; omega) (by repeat' (first | exact .nil | refine .cons rfl ?_)) rfl ⟨rfl, hk', hk', fun i hi => ?_⟩
          simp only at hi ⊢
          rcases Nat.lt_or_ge i k with h | h
          · have := hmax i h; omega
          · rw [show i = k by omega]; exact Nat.le_refl _
        · repeat' (first | refine zP ?_ | refine zA ?_ | (refine zM ?_; intro _ _) | refine zX ?_ | (refine zC ?_; intro _ _ _ _) | (refine zS ?_; intro _ _) | (apply Ws <;> intro hg))
          refine Ends.loop (k + 1, p) (by simp only; omega) (by repeat' (first | exact .nil | refine .cons rfl ?_)) rfl ⟨rfl, hk', hp, fun i hi => ?_⟩
          simp only at hi ⊢
          rcases Nat.lt_or_ge i k with h | h
          · exact hmax i h
          · rw [show i = k by omega]; omega
      · have hmax2 : ∀ x ∈ l, x ≤ l.getD p 0 := fun x hx => by
          obtain ⟨i, hi, rfl⟩ := mem_get hx
          exact hmax i (by omega)
        clear hmax
        have hsplit : l = l.take p ++ l.getD p 0 :: l.drop (p + 1) := by rw [getD_eq hp, ← List.drop_eq_getElem_cons hp, List.take_append_drop]
        have hL : ∀ x ∈ l.take p, x < l.getD p 0 := fun x hx => by
          have h1 := hmax2 x ((List.take_sublist _ _).subset hx)
          obtain ⟨i, hi, he⟩ := mem_get hx
          simp only [List.length_take] at hi
          rw [getD_take (by omega)] at he
          have : x ≠ l.getD p 0 := fun e => by have := nodup_get hn (show i < l.length by omega) hp (he.trans e); omega
          omega
        have hR : ∀ x ∈ l.drop (p + 1), x < l.getD p 0 := fun x hx => by
          have h1 := hmax2 x ((List.drop_sublist _ _).subset hx)
          obtain ⟨i, q1, q2⟩ := mem_get hx
          simp only [List.length_drop] at q1
          rw [List.getD_eq_getElem?_getD, List.getElem?_drop, ← List.getD_eq_getElem?_getD] at q2
          have : x ≠ l.getD p 0 := fun e => by have := nodup_get hn (show p + 1 + i < l.length by omega) hp (q2.trans e); omega
          omega
        have hpass := passF_split hL hR
        rw [← hsplit] at hpass
        have hlt1 : (l.take p).length ≤ N := by rw [List.length_take]; omega
        have hld : (l.drop (p + 1)).length ≤ N := by rw [List.length_drop]; omega
        have hlt2 : (l.take p).length ≤ 10 := by rw [List.length_take]; omega
        have hld2 : (l.drop (p + 1)).length ≤ 10 := by rw [List.length_drop]; omega
        have hl1 := passF_len (l.take p)
        have hl2 := passF_len (l.drop (p + 1))
        have hv := hS.one_
        repeat' (first | refine zP ?_ | refine zA ?_ | (refine zM ?_; intro _ _) | refine zX ?_ | (refine zC ?_; intro _ _ _ _) | (refine zS ?_; intro _ _) | (apply Ws <;> intro hg))
        refine WR.cutHiN (by first | exact gN | exact gS rfl) rfl rfl hS rfl (by omega) fun v1 hs1 => ?_
        repeat' (first | refine zP ?_ | refine zA ?_ | (refine zM ?_; intro _ _) | refine zX ?_ | (refine zC ?_; intro _ _ _ _) | (refine zS ?_; intro _ _) | (apply Ws <;> intro hg))
        rw [show (p : Int) + 1 = ((p + 1 : Nat) : Int) by omega]
        refine WR.cutLoN (by first | exact gN | exact gS rfl) rfl rfl hS rfl (by omega) fun v2 hs2 => ?_
        refine WR.call (by first | exact gN | exact gS rfl) rfl rfl (ih hlt1 hH hs1 ((List.take_sublist _ _).nodup hn) hlt2) ?_
        rintro w1 H3 ⟨Mx, n3, hO3, hn3, hH3⟩
        refine WR.bldS (by first | exact gN | exact gS rfl) rfl hH3 (vs := []) rfl (cs := []) (by rfl) rfl fun H4 hH4 => ?_
        have hSw : Sl ([(n3, Ch.row 3 0 0 [])] ++ (Mx ++ M)) 1 w1 (nodes (passF (l.take p))) ∧ (passF (l.take p) = [] → w1 = .slice none 0 0) := by
          rcases hO3 with ⟨e1, rfl, rfl⟩ | ⟨e1, e2⟩
          · rw [e1]; exact ⟨.nil 0, fun _ => rfl⟩
          · refine ⟨(e2.own.sl []).mono fun q hq => by simp at hq; simp [hq], fun e => ?_⟩
            rw [e] at hl1; exact absurd (List.length_eq_zero_iff.1 hl1.symm) e1
        refine WR.appZS (xs := []) (T := Mx ++ M) (by first | exact gN | exact gS rfl) rfl rfl rfl OwnZ.empty hSw.1 hSw.2 hH4 (by simp) (by omega) fun w3 M3 n5 H5 hO5 hH5 hn5 => ?_
        rw [List.nil_append] at hO5
        clear hSw hH4 hH3 hO3
        refine WR.call (by first | exact gN | exact gS rfl) rfl rfl (ih hld hH5 (hs2.mono fun q hq => List.mem_append_right _ (List.mem_append_right _ hq)) ((List.drop_sublist _ _).nodup hn) hld2) ?_
        rintro w2 H6 ⟨My, n6, hO6, hn6, hH6⟩
        have hH7 : hasH (M3 ++ (My ++ (Mx ++ M))) n6 H6 := hH6.perm (List.perm_append_comm_assoc My M3 (Mx ++ M))
        have hSw : Sl (M3 ++ (My ++ (Mx ++ M))) 1 w2 (nodes (passF (l.drop (p + 1)))) ∧ (passF (l.drop (p + 1)) = [] → w2 = .slice none 0 0) := by
          rcases hO6 with ⟨e1, rfl, rfl⟩ | ⟨e1, e2⟩
          · rw [e1]; exact ⟨.nil 0, fun _ => rfl⟩
          · refine ⟨(e2.own.sl []).mono fun q hq => by simp at hq; simp [hq], fun e => ?_⟩
            rw [e] at hl2; exact absurd (List.length_eq_zero_iff.1 hl2.symm) e1
        refine WR.appZS (T := My ++ (Mx ++ M)) (by first | exact gN | exact gS rfl) rfl rfl rfl hO5 hSw.1 hSw.2 hH7 (by omega) (by omega) fun w7 M7 n7 H7 hO7 hH7 hn7 => ?_
        have hS7 : Sl (M7 ++ (My ++ (Mx ++ M))) 1 v (nodes l) := hS.mono fun q hq => by simp [hq]
        repeat' (first | refine zP ?_ | refine zA ?_ | (refine zM ?_; intro _ _) | refine zX ?_ | (refine zC ?_; intro _ _ _ _) | (refine zS ?_; intro _ _) | (apply Ws <;> intro hg))
        refine WR.app1Z rfl rfl rfl rfl hO7 hH7 rfl (by simp; omega) fun w8 M8 n8 H8 hO8 hH8 hn8 => ?_
        have hw8 := (hO8.own.sl []).one_
        repeat' (first | refine zP ?_ | refine zA ?_ | (refine zM ?_; intro _ _) | refine zX ?_ | (refine zC ?_; intro _ _ _ _) | (refine zS ?_; intro _ _) | (apply Ws <;> intro hg))
        refine Ends.ret1 rfl ⟨M8, n8, .inr ⟨fun e => h0 (by rw [e]; rfl), by rw [hpass]; exact hO8⟩, by omega, hH8.sub (List.Sublist.append_left ((List.sublist_append_right Mx M).trans (List.sublist_append_right My _)) _)⟩
set_option maxHeartbeats 1000000 in
theorem rpasses_fs (hH : hasH M n0 H) {o : List Nat} (ho : Sl M 1 v (nodes o)) (hO : OrdN o) :
    FS C 75 [v] H (fun e H' => ∃ (k : Nat) (n' : Nat), e = .int .i64 (k : Int) ∧ PassN o k ∧ n0 ≤ n' ∧ hasH M n' H') := by
  have h7 := hO.most
  have h1 := hO.one
  refine FS.intro (pf := pf75) rfl rfl rfl ?_
  repeat' (first | refine zP ?_ | refine zA ?_ | (refine zM ?_; intro _ _) | refine zX ?_ | (refine zC ?_; intro _ _ _ _) | (refine zS ?_; intro _ _) | (apply Ws <;> intro hg))
  refine WC.loopX [] (fun z : UZ => [(0, z.v), (3, .int .i64 (z.k : Int))]) [] (fun z H' => z.k ≤ o.length - 1 ∧ (∀ j, j < z.k → ascB (pit o j) = false) ∧ Sl (z.Mx ++ M) 1 z.v (nodes (pit o z.k)) ∧ n0 ≤ z.n ∧ hasH (z.Mx ++ M) z.n H') (fun z => o.length - z.k) ⟨0, v, [], n0⟩ (by repeat' (first | exact .nil | refine .cons rfl ?_)) rfl
    ⟨Nat.zero_le _, fun j h => absurd h (Nat.not_lt_zero _), ho, Nat.le_refl _, hH⟩ ?_
  clear hH ho
  rintro ⟨k, v, Mx, n1⟩ H1 ⟨hk, hno, hS, hn1, hH⟩
  simp only at hk hno hS hn1 hH
  obtain ⟨hp1, hp2⟩ := pit_ord hO k
  dsimp only [List.cons_append, List.nil_append]
  repeat' (first | refine zP ?_ | refine zA ?_ | (refine zM ?_; intro _ _) | refine zX ?_ | (refine zC ?_; intro _ _ _ _) | (refine zS ?_; intro _ _) | (apply Ws <;> intro hg))
  refine WR.call (by first | exact gN | exact gS rfl) rfl rfl (ascending_fs hH hS (by omega)) ?_
  rintro _ H2 ⟨rfl, rfl⟩
  rw [ascR_ord hp1]
  cases ha : ascB (pit o k) with
  | true =>
    repeat' (first | refine zP ?_ | refine zA ?_ | (refine zM ?_; intro _ _) | refine zX ?_ | (refine zC ?_; intro _ _ _ _) | (refine zS ?_; intro _ _) | (apply Ws <;> intro hg))
    exact Ends.ret1 rfl ⟨k, n1, rfl, ⟨hk, ha, hno⟩, hn1, hH.sub (List.sublist_append_right _ _)⟩
  | false =>
    have hk2 : k ≠ o.length - 1 := by
      rintro rfl
      rw [asc_last hO] at ha; cases ha
    repeat' (first | refine zP ?_ | refine zA ?_ | (refine zM ?_; intro _ _) | refine zX ?_ | (refine zC ?_; intro _ _ _ _) | (refine zS ?_; intro _ _) | (apply Ws <;> intro hg))
    refine WR.call (by first | exact gN | exact gS rfl) rfl rfl (rpass_fs 10 (by omega) hH hS hp1.nodup (by omega)) ?_
    rintro u H3 ⟨My, n3, hOw, hn3, hH3⟩
    have hSu : Sl (My ++ M) 1 u (nodes (pit o (k + 1))) := by
      rcases hOw with ⟨e1, _⟩ | ⟨_, e2⟩
      · rw [e1] at hp2; simp at hp2; omega
      · exact e2.own.sl M
    repeat' (first | refine zP ?_ | refine zA ?_ | (refine zM ?_; intro _ _) | refine zX ?_ | (refine zC ?_; intro _ _ _ _) | (refine zS ?_; intro _ _) | (apply Ws <;> intro hg))
    refine Ends.loop ⟨k + 1, u, My, n3⟩ (by simp only; omega) (by repeat' (first | exact .nil | refine .cons rfl ?_)) rfl ⟨by simp only; omega, fun j hj => ?_, hSu, by simp only; omega, hH3.sub (List.Sublist.append_left (List.sublist_append_right _ _) _)⟩
    simp only at hj
    by_cases e : j = k
    · rw [e]; exact ha
    · exact hno j (by omega)
end
end Go.Proofs.Ytfnflkcjhefddaa.Lk

/- Barges leave in the ascending order just if no two of a basin clash. -/
namespace Go.Proofs.Ytfnflkcjhefddaa.Lk
open Go Go.Abs Go.Mth
set_option linter.unusedVariables false
set_option linter.unusedSimpArgs false
def clashP (o : List Nat) (i j : Nat) : Prop := o.getD i 0 < o.getD j 0 ∧ ∃ k, j < k ∧ k < o.length ∧ o.getD k 0 < o.getD i 0
def WK (o t : List Nat) (k : Nat) : Nat := o.length - (basK o t (List.range o.length) k).2.2.length
theorem upN_len (w n : Nat) : (upN w n).length = n - w := by simp [upN]
theorem two_at {a b : Nat} : ∀ {l : List Nat}, [a, b].Sublist l → ∃ i j, i < j ∧ j < l.length ∧ l.getD i 0 = a ∧ l.getD j 0 = b
  | [], h => by cases h
  | x :: l, h => by
    cases h with
    | cons _ h =>
      obtain ⟨i, j, h1, h2, h3, h4⟩ := two_at h
      exact ⟨i + 1, j + 1, by omega, by simp; omega, by simpa using h3, by simpa using h4⟩
    | cons_cons _ h =>
      obtain ⟨j, hj, he⟩ := mem_get (h.subset (List.mem_singleton_self b))
      exact ⟨0, j + 1, by omega, by simp; omega, rfl, by simpa using he⟩
/-- What lies above came later. -/
theorem above {o : List Nat} {k a b : Nat} {l : List Nat} (hn : o.Nodup) (hs : (a :: l).Sublist (o.take k).reverse) (hb : b ∈ l) {i j : Nat} (hi : i < o.length) (hj : j < o.length) (ha : o.getD j 0 = a) (hbi : o.getD i 0 = b) : i < j := by
  have h1 : [a, b].Sublist (o.take k).reverse := ((List.singleton_sublist.2 hb).cons_cons a).trans hs
  have h2 : [b, a].Sublist (o.take k) := by have := h1.reverse; simpa using this
  obtain ⟨i2, j2, q1, q2, q3, q4⟩ := two_at (h2.trans (List.take_sublist k o))
  have e1 := nodup_get hn (show i2 < o.length by omega) hi (q3.trans hbi.symm)
  have e2 := nodup_get hn q2 hj (q4.trans ha.symm)
  omega
theorem not_before {o : List Nat} {k : Nat} (hn : o.Nodup) (hk : k < o.length) : o.getD k 0 ∉ o.take k := by
  intro h
  obtain ⟨i, hi, he⟩ := mem_get h
  simp only [List.length_take] at hi
  rw [getD_take (by omega)] at he
  have := nodup_get hn (show i < o.length by omega) hk he
  omega
theorem mem_take {o : List Nat} {k x : Nat} (h : x ∈ o.take k) : ∃ i, i < k ∧ i < o.length ∧ o.getD i 0 = x := by
  obtain ⟨i, hi, he⟩ := mem_get h
  simp only [List.length_take] at hi
  rw [getD_take (by omega)] at he
  exact ⟨i, by omega, by omega, he⟩
theorem in_take {o : List Nat} {k i : Nat} (h : i < k) (hi : i < o.length) : o.getD i 0 ∈ o.take k := by
  rw [← getD_take (k := k) h]
  exact getD_mem (by simp; omega)
structure StB (o t : List Nat) (k w : Nat) : Prop where
  bas : ∃ p q, basK o t (List.range o.length) k = (p, q, upN w o.length) ∧ InvB o t k w p q ∧ (w < o.length → p.head? ≠ some w ∧ q.head? ≠ some w)
  le : w ≤ o.length
theorem StB.eq {o t : List Nat} {k w : Nat} (h : StB o t k w) : WK o t k = w := by
  obtain ⟨⟨p, q, h1, _⟩, h2⟩ := h
  unfold WK; rw [h1]
  show o.length - (upN w o.length).length = w
  rw [upN_len]; omega
theorem st_zero (o t : List Nat) : StB o t 0 0 := by
  refine ⟨⟨[], [], by rw [upN_range]; rfl, ⟨fun x => by simp, fun x h => by simp at h, fun x h => by simp at h, fun x h => by simp at h, by simp, by simp, fun x h => by omega⟩, fun _ => by simp⟩, Nat.zero_le _⟩
theorem st_step {o t : List Nat} (ho : OrdN o) {k w : Nat} (hk : k < o.length) (h : StB o t k w) : ∃ w', StB o t (k + 1) w' ∧ w ≤ w' ∧ ∀ s, (∀ p2 q2, InvB o t (k + 1) s p2 q2 → p2.head? ≠ some s ∧ q2.head? ≠ some s) → w ≤ s → s ≤ o.length → w' ≤ s := by
  obtain ⟨⟨p, q, h1, h2, h3⟩, h4⟩ := h
  have hw : w ≤ o.getD k 0 := by
    refine Nat.le_of_not_lt fun hc => not_before ho.nodup hk (h2.low _ hc)
  have hp := h2.push ho.nodup hk hw
  obtain ⟨p', q', w', e1, e2, e3, e4, e5, e6⟩ := hp.pop ho.nodup ho.lt (o.length - w) w rfl h4
  refine ⟨w', ⟨⟨p', q', ?_, e4, e5⟩, e3⟩, e2, e6⟩
  rw [← e1]
  show put2 (basK o t (List.range o.length) k) (o.getD k 0) (t.getD k 0) = _
  rw [h1]
  unfold put2
  split <;> rfl
theorem st_all {o t : List Nat} (ho : OrdN o) : ∀ k, k ≤ o.length → StB o t k (WK o t k)
  | 0, _ => by have := st_zero o t; rw [this.eq]; exact this
  | k + 1, hk => by
    obtain ⟨w', h, _⟩ := st_step ho (by omega) (st_all ho k (by omega))
    rw [h.eq]; exact h
theorem WK_mono {o t : List Nat} (ho : OrdN o) {k : Nat} (hk : k < o.length) : WK o t k ≤ WK o t (k + 1) := by
  obtain ⟨w', h, h2, _⟩ := st_step ho hk (st_all (t := t) ho k (by omega))
  rw [h.eq]; exact h2
theorem WK_le {o t : List Nat} (ho : OrdN o) {j : Nat} : ∀ {k : Nat}, j ≤ k → k ≤ o.length → WK o t j ≤ WK o t k
  | 0, h, _ => by rw [show j = 0 by omega]; exact Nat.le_refl _
  | k + 1, h, hk => by
    by_cases e : j = k + 1
    · rw [e]; exact Nat.le_refl _
    · exact Nat.le_trans (WK_le ho (show j ≤ k by omega) (by omega)) (WK_mono ho (by omega))
theorem asc_W {o t : List Nat} (ho : OrdN o) : (basK o t (List.range o.length) o.length).2.2 = [] ↔ WK o t o.length = o.length := by
  obtain ⟨⟨p, q, h1, _⟩, h2⟩ := st_all (t := t) ho o.length (Nat.le_refl _)
  rw [h1]
  exact upN_empty h2
theorem asc_iff {o t : List Nat} (ho : OrdN o) (ht : ∀ i, i < o.length → t.getD i 0 < 2) :
    (basK o t (List.range o.length) o.length).2.2 = [] ↔ ∀ i j, i < j → j < o.length → t.getD i 0 = t.getD j 0 → ¬ clashP o i j := by
  rw [asc_W ho]
  constructor
  · rintro hW i j hij hj hb ⟨hlt, m, hjm, hm, hc⟩
    have hi : i < o.length := by omega
    -- what is wanted never passes the one below
    have key : ∀ k, j + 1 ≤ k → k ≤ o.length → WK o t k ≤ o.getD i 0 := by
      intro k hk
      obtain ⟨d, rfl⟩ := Nat.le.dest hk
      clear hk
      induction d with
      | zero =>
        intro hk
        show WK o t (j + 1) ≤ _
        obtain ⟨⟨p, q, h1, h2, _⟩, _⟩ := st_all (t := t) ho (j + 1) hk
        refine Nat.le_of_not_lt fun hc2 => ?_
        have hmem := h2.low (o.getD m 0) (by omega)
        obtain ⟨x, hx1, hx2, hx3⟩ := mem_take hmem
        have := nodup_get ho.nodup hx2 hm hx3
        omega
      | succ d ih =>
        intro hk
        have ih := ih (by omega)
        obtain ⟨w', hw1, hw2, hw3⟩ := st_step ho (show j + 1 + d < o.length by omega) (st_all (t := t) ho (j + 1 + d) (by omega))
        rw [show j + 1 + (d + 1) = j + 1 + d + 1 by omega, hw1.eq]
        refine hw3 (o.getD i 0) (fun p2 q2 hI => ?_) ih (Nat.le_of_lt (ho.lt _ (getD_mem hi)))
        have hgm := (hI.mem (o.getD j 0)).2 ⟨in_take (by omega) hj, by omega⟩
        constructor
        · intro hh
          obtain ⟨p3, rfl⟩ : ∃ p3, p2 = o.getD i 0 :: p3 := by
            cases p2 with
            | nil => cases hh
            | cons a p3 => simp only [List.head?_cons, Option.some.injEq] at hh; exact ⟨p3, by rw [hh]⟩
          obtain ⟨i2, _, q2a, q3, q4⟩ := hI.inp _ (.head _)
          have ei := nodup_get ho.nodup q2a hi q3
          subst ei
          rcases hgm with hgm | hgm
          · rcases List.mem_cons.1 hgm with hgm | hgm
            · omega
            · have := above ho.nodup hI.sp hgm hj hi rfl rfl
              omega
          · obtain ⟨j2, _, r2, r3, r4⟩ := hI.inq _ hgm
            have ej := nodup_get ho.nodup r2 hj r3
            subst ej
            omega
        · intro hh
          obtain ⟨p3, rfl⟩ : ∃ p3, q2 = o.getD i 0 :: p3 := by
            cases q2 with
            | nil => cases hh
            | cons a p3 => simp only [List.head?_cons, Option.some.injEq] at hh; exact ⟨p3, by rw [hh]⟩
          obtain ⟨i2, _, q2a, q3, q4⟩ := hI.inq _ (.head _)
          have ei := nodup_get ho.nodup q2a hi q3
          subst ei
          rcases hgm with hgm | hgm
          · obtain ⟨j2, _, r2, r3, r4⟩ := hI.inp _ hgm
            have ej := nodup_get ho.nodup r2 hj r3
            subst ej
            omega
          · rcases List.mem_cons.1 hgm with hgm | hgm
            · omega
            · have := above ho.nodup hI.sq hgm hj hi rfl rfl
              omega
    have h1 := key o.length (by omega) (Nat.le_refl _)
    have h2 := ho.lt _ (getD_mem (a := 0) hi)
    omega
  · intro hno
    have key : ∀ k, k ≤ o.length → WK o t k < o.length → WK o t k ∉ o.take k := by
      intro k
      induction k using Nat.strongRecOn with
      | _ k ih =>
        intro hk hw hm
        obtain ⟨⟨p, q, h1, hI, hh⟩, _⟩ := st_all (t := t) ho k hk
        obtain ⟨hh1, hh2⟩ := hh hw
        have main : ∀ (l : List Nat), l.Sublist (o.take k).reverse → l.head? ≠ some (WK o t k) → WK o t k ∈ l → (∀ x ∈ l, x ∈ o.take k ∧ WK o t k ≤ x) → (∀ x ∈ l, ∃ i, i < k ∧ i < o.length ∧ o.getD i 0 = x) → (∀ i j, i < o.length → j < o.length → o.getD i 0 ∈ l → o.getD j 0 ∈ l → t.getD i 0 = t.getD j 0) → False := by
          intro l hs hne hwl hml hpl hbl
          cases l with
          | nil => cases hwl
          | cons h l =>
            have hhw : h ≠ WK o t k := fun e => hne (by rw [e]; rfl)
            have hwl2 : WK o t k ∈ l := by
              rcases List.mem_cons.1 hwl with e | e
              · exact absurd e.symm hhw
              · exact e
            obtain ⟨i, hi1, hi2, hi3⟩ := hpl _ (.tail _ hwl2)
            obtain ⟨j, hj1, hj2, hj3⟩ := hpl h (.head _)
            have hij := above ho.nodup hs hwl2 hi2 hj2 hj3 hi3
            have hle := (hml h (.head _)).2
            have hWj := WK_le (t := t) ho (show j ≤ k by omega) hk
            have hni := ih j hj1 (by omega) (by omega)
            have hit := in_take hij hi2
            have hne2 : WK o t j ≠ WK o t k := fun e => hni (by rw [e, ← hi3]; exact hit)
            obtain ⟨m, hm1, hm2⟩ := mem_get (ho.mem (show WK o t j < o.length by omega))
            have hmj : ¬ m < j := fun e => hni (by rw [← hm2]; exact in_take e hm1)
            have hmj2 : m ≠ j := by rintro rfl; omega
            refine hno i j hij hj2 (hbl i j hi2 hj2 (by rw [hi3]; exact .tail _ hwl2) (by rw [hj3]; exact .head _)) ⟨by omega, m, by omega, hm1, by omega⟩
        rcases (hI.mem _).2 ⟨hm, Nat.le_refl _⟩ with h5 | h5
        · refine main p hI.sp hh1 h5 (fun x hx => (hI.mem x).1 (.inl hx)) (fun x hx => ?_) (fun i j hi hj h6 h7 => ?_)
          · obtain ⟨i, a, b, c, _⟩ := hI.inp x hx
            exact ⟨i, a, b, c⟩
          · obtain ⟨i2, _, b, c, d⟩ := hI.inp _ h6
            obtain ⟨j2, _, b', c', d'⟩ := hI.inp _ h7
            have e1 := nodup_get ho.nodup b hi c
            have e2 := nodup_get ho.nodup b' hj c'
            subst e1; subst e2; omega
        · refine main q hI.sq hh2 h5 (fun x hx => (hI.mem x).1 (.inr hx)) (fun x hx => ?_) (fun i j hi hj h6 h7 => ?_)
          · obtain ⟨i, a, b, c, _⟩ := hI.inq x hx
            exact ⟨i, a, b, c⟩
          · obtain ⟨i2, _, b, c, d⟩ := hI.inq _ h6
            obtain ⟨j2, _, b', c', d'⟩ := hI.inq _ h7
            have e1 := nodup_get ho.nodup b hi c
            have e2 := nodup_get ho.nodup b' hj c'
            subst e1; subst e2
            have := ht i2 hi
            have := ht j2 hj
            omega
    obtain ⟨_, hle⟩ := st_all (t := t) ho o.length (Nat.le_refl _)
    refine Classical.byContradiction fun hne => ?_
    have hlt : WK o t o.length < o.length := by omega
    refine key o.length (Nat.le_refl _) hlt ?_
    rw [List.take_length]
    exact ho.mem hlt
end Go.Proofs.Ytfnflkcjhefddaa.Lk

/- Some moves lead to the ascending order just if a pass does, and just if nothing bars it. -/
namespace Go.Proofs.Ytfnflkcjhefddaa.Lk
open Go Go.Abs Go.Mth
set_option linter.unusedVariables false
set_option linter.unusedSimpArgs false
def barB (o : List Nat) (i j k : Nat) : Bool := decide (o.getD k 0 < o.getD i 0) && decide (o.getD i 0 < o.getD j 0)
/-- Nothing bars it. -/
def NoBar (o : List Nat) : Prop := ∀ i j k, i < j → j < k → k < o.length → barB o i j k = false
theorem barB_iff {o : List Nat} {i j k : Nat} : barB o i j k = true ↔ o.getD k 0 < o.getD i 0 ∧ o.getD i 0 < o.getD j 0 := by simp [barB]
theorem nobar_clash {o : List Nat} : NoBar o ↔ ∀ i j, i < j → j < o.length → ¬ clashP o i j := by
  constructor
  · rintro h i j hij hj ⟨h1, k, h2, h3, h4⟩
    have := h i j k hij h2 h3
    rw [barB_iff.2 ⟨h4, h1⟩] at this; cases this
  · intro h i j k hij hjk hk
    cases hb : barB o i j k with
    | false => rfl
    | true =>
      obtain ⟨h1, h2⟩ := barB_iff.1 hb
      exact absurd ⟨h2, k, hjk, hk, h1⟩ (h i j hij (by omega))
/-- One basin is enough. -/
theorem asc_nobar {o : List Nat} (ho : OrdN o) : (basK o (List.replicate o.length 0) (List.range o.length) o.length).2.2 = [] ↔ NoBar o := by
  have hz : ∀ i, i < o.length → (List.replicate o.length 0).getD i 0 = 0 := fun i hi => by rw [getD_eq (by simpa using hi), List.getElem_replicate]
  rw [asc_iff ho fun i hi => by rw [hz i hi]; decide, nobar_clash]
  exact ⟨fun h i j hij hj => h i j hij hj (by rw [hz i (by omega), hz j hj]), fun h i j hij hj _ => h i j hij hj⟩
/-- From here on some moves lead to the ascending order. -/
def canB (o : List Nat) : Nat → Nat → List Nat → List Nat → Bool
  | 0, c, i, u => ascB u
  | m + 1, c, i, u => (decide (c < o.length) && canB o m (c + 1) (i ++ [o.getD c 0]) u) || (decide (i ≠ []) && canB o m c i.dropLast (u ++ [i.getD (i.length - 1) 0]))
/-- A state of the moves. -/
structure StM (o : List Nat) (m c : Nat) (i u : List Nat) : Prop where
  le : c ≤ o.length
  num : m = 2 * (o.length - c) + i.length
  perm : (i ++ u).Perm (o.take c)
  sub : i.Sublist (o.take c)
theorem take_snoc {o : List Nat} {c : Nat} (h : c < o.length) : o.take (c + 1) = o.take c ++ [o.getD c 0] := by rw [List.take_succ_eq_append_getElem h, getD_eq h]
theorem StM.come {o : List Nat} {m c : Nat} {i u : List Nat} (h : StM o (m + 1) c i u) (hc : c < o.length) : StM o m (c + 1) (i ++ [o.getD c 0]) u := by
  refine ⟨hc, by have := h.num; simp; omega, ?_, ?_⟩
  · rw [take_snoc hc]
    refine List.Perm.trans ?_ (h.perm.append_right _)
    rw [List.append_assoc, List.append_assoc]
    exact List.Perm.append_left _ List.perm_append_comm
  · rw [take_snoc hc]; exact h.sub.append (List.Sublist.refl _)
theorem StM.full {o : List Nat} {c : Nat} {i u : List Nat} (h : StM o 0 c i u) : c = o.length ∧ i = [] ∧ u.Perm o := by
  have := h.num
  have h1 := h.le
  have hi : i = [] := List.length_eq_zero_iff.1 (by omega)
  have hc : c = o.length := by omega
  refine ⟨hc, hi, ?_⟩
  have := h.perm
  rw [hi, hc, List.take_length] at this
  exact this
theorem StM.len {o : List Nat} {m c : Nat} {i u : List Nat} (h : StM o m c i u) : i.length + u.length = c := by
  have := h.perm.length_eq
  rw [List.length_append, List.length_take] at this
  have := h.le
  omega
end Go.Proofs.Ytfnflkcjhefddaa.Lk

/- A basin's methods. -/
namespace Go.Proofs.Ytfnflkcjhefddaa.Lk
open Go Go.Abs Go.Mth
set_option linter.unusedVariables false
set_option linter.unusedSimpArgs false
abbrev ptrO (b o : Nat) : Value := .pointer (some ⟨b, o, some 0⟩)
theorem cell_row {M : HL} {b o e : Nat} {cs : List Value} {v : Value} (hm : (b, Ch.row e 0 0 cs) ∈ M) (hc : cs[o]? = some v) : Cell M b o 0 v := ⟨_, 0, cs, hm, .row _ _ _ _, Nat.zero_le _, hc⟩
attribute [local irreducible] gOK WS WC WR WD Ends FS YS OpV seqK blockK loopK midK retK rdK asgK rangeEnd sat Cell
section
variable {M : HL} {n0 : Nat} {H : Heap} {v w : Value}
theorem isEmpty_fs (hH : hasH M n0 H) {b o : Nat} {S : List Value} (hc : Cell M b o 0 v) (hS : Sl M 1 v S) :
    FS C 95 [ptrO b o] H (fun e H' => H' = H ∧ e = .bool (decide (S.length = 0))) := by
  refine FS.intro (pf := pf95) rfl rfl rfl ?_
  repeat' (first | refine zP ?_ | refine zA ?_ | (refine zM ?_; intro _ _) | refine zX ?_ | (refine zC ?_; intro _ _ _ _) | (refine zS ?_; intro _ _) | (apply Ws <;> intro hg))
  exact Ends.ret1 rfl ⟨rfl, by congr 1; rw [decide_eq_decide]; omega⟩
theorem last_fs (hH : hasH M n0 H) {b o : Nat} {S : List Value} {y : Value} (hc : Cell M b o 0 v) (hS : Sl M 1 v (S ++ [y])) (hb : S.length ≤ 10000) :
    FS C 96 [ptrO b o] H (fun e H' => H' = H ∧ e = y) := by
  refine FS.intro (pf := pf96) rfl rfl rfl ?_
  have hl : ((S ++ [y]).length : Int) = (S.length : Int) + 1 := by simp
  have h1 : S.length < (S ++ [y]).length := by simp
  have hg : (S ++ [y]).getD S.length undef = y := getD_snoc
  generalize S ++ [y] = Q at hS hl h1 hg
  repeat' (first | refine zP ?_ | refine zA ?_ | (refine zM ?_; intro _ _) | refine zX ?_ | (refine zC ?_; intro _ _ _ _) | (refine zS ?_; intro _ _) | (apply Ws <;> intro hg))
  rw [hl]
  repeat' (first | refine zP ?_ | refine zA ?_ | (refine zM ?_; intro _ _) | refine zX ?_ | (refine zC ?_; intro _ _ _ _) | (refine zS ?_; intro _ _) | (apply Ws <;> intro hg))
  rw [show (S.length : Int) + 1 - 1 = (S.length : Int) by omega]
  repeat' (first | refine zP ?_ | refine zA ?_ | (refine zM ?_; intro _ _) | refine zX ?_ | (refine zC ?_; intro _ _ _ _) | (refine zS ?_; intro _ _) | (apply Ws <;> intro hg))
  exact Ends.ret1 rfl ⟨rfl, hg⟩
theorem StkO.len {e : Nat} {v : Value} {S : List Value} {Mx : HL} (h : StkO e v S Mx) : S.length ≤ 10000 := by
  cases h with
  | nil => simp
  | mk hl hS hc hb => have := hc.le; omega
theorem take_fs {e b o : Nat} {cs : List Value} {Mx : HL} {S : List Value} {y : Value} (hO : StkO 3 v (S ++ [y]) Mx) (hH : hasH ((b, .row e 0 0 cs) :: (Mx ++ M)) n0 H) (hc : cs[o]? = some v) :
    FS C 97 [ptrO b o] H (fun r H' => r = y ∧ ∃ v', StkO 3 v' S Mx ∧ hasH ((b, .row e 0 0 (cs.set o v')) :: (Mx ++ M)) n0 H') := by
  have hS := (hO.sl M).cons (p := (b, Ch.row e 0 0 cs))
  have hC := cell_row (M := (b, Ch.row e 0 0 cs) :: (Mx ++ M)) (.head _) hc
  have ho : o < cs.length := (List.getElem?_eq_some_iff.1 hc).1
  refine FS.intro (pf := pf97) rfl rfl rfl ?_
  repeat' (first | refine zP ?_ | refine zA ?_ | (refine zM ?_; intro _ _) | refine zX ?_ | (refine zC ?_; intro _ _ _ _) | (refine zS ?_; intro _ _) | (apply Ws <;> intro hg))
  have hb := StkO.len hO
  rw [List.length_append, List.length_singleton] at hb
  refine WR.call (by first | exact gN | exact gS rfl) rfl rfl (last_fs hH hC hS (by omega)) ?_
  rintro r _ ⟨rfl, hr⟩
  rw [hr]
  have hl : ((S ++ [y]).length : Int) = (S.length : Int) + 1 := by simp
  repeat' (first | refine zP ?_ | refine zA ?_ | (refine zM ?_; intro _ _) | refine zX ?_ | (refine zC ?_; intro _ _ _ _) | (refine zS ?_; intro _ _) | (apply Ws <;> intro hg))
  rw [hl]
  repeat' (first | refine zP ?_ | refine zA ?_ | (refine zM ?_; intro _ _) | refine zX ?_ | (refine zC ?_; intro _ _ _ _) | (refine zS ?_; intro _ _) | (apply Ws <;> intro hg))
  rw [show (S.length : Int) + 1 - 1 = (S.length : Int) by omega]
  refine WR.popO (by first | exact gN | exact gS rfl) rfl rfl hO rfl fun v' h2 => ?_
  repeat' (first | refine zP ?_ | refine zA ?_ | (refine zM ?_; intro _ _) | refine zX ?_ | (refine zC ?_; intro _ _ _ _) | (refine zS ?_; intro _ _) | (apply Ws <;> intro hg))
  refine WR.store1 (M' := (b, .row e 0 0 (cs.set o v')) :: (Mx ++ M)) (by first | exact gN | exact gS rfl) hH rfl rfl h2.one_ .here (Nat.zero_le _) (by simpa using ho) (by simp) fun H2 hH2 => ?_
  repeat' (first | refine zP ?_ | refine zA ?_ | (refine zM ?_; intro _ _) | refine zX ?_ | (refine zC ?_; intro _ _ _ _) | (refine zS ?_; intro _ _) | (apply Ws <;> intro hg))
  exact Ends.ret1 rfl ⟨rfl, v', h2, hH2⟩
theorem bring_fs {e b o : Nat} {cs : List Value} {Mx : HL} {S : List Value} {a : Nat} (hO : StkO 3 v S Mx) (hH : hasH ((b, .row e 0 0 cs) :: (Mx ++ M)) n0 H) (hc : cs[o]? = some v) (hl : S.length ≤ 9000) :
    FS C 98 [ptrO b o, .int .i64 (a : Int)] H (fun r H' => ∃ v' Mx' n', StkO 3 v' (S ++ [.int .i64 (a : Int)]) Mx' ∧ n0 ≤ n' ∧ hasH ((b, .row e 0 0 (cs.set o v')) :: (Mx' ++ M)) n' H') := by
  have hC := cell_row (M := (b, Ch.row e 0 0 cs) :: (Mx ++ M)) (.head _) hc
  have ho : o < cs.length := (List.getElem?_eq_some_iff.1 hc).1
  refine FS.intro (pf := pf98) rfl rfl rfl ?_
  repeat' (first | refine zP ?_ | refine zA ?_ | (refine zM ?_; intro _ _) | refine zX ?_ | (refine zC ?_; intro _ _ _ _) | (refine zS ?_; intro _ _) | (apply Ws <;> intro hg))
  refine WR.push [(b, Ch.row e 0 0 cs)] Mx M rfl rfl rfl rfl hO hH rfl rfl hl fun v' Mx' n' H1 h1 hH1 hn => ?_
  repeat' (first | refine zP ?_ | refine zA ?_ | (refine zM ?_; intro _ _) | refine zX ?_ | (refine zC ?_; intro _ _ _ _) | (refine zS ?_; intro _ _) | (apply Ws <;> intro hg))
  refine WR.store1 (M' := (b, .row e 0 0 (cs.set o v')) :: (Mx' ++ M)) (by first | exact gN | exact gS rfl) hH1 rfl rfl h1.one_ .here (Nat.zero_le _) (by simpa using ho) (by simp) fun H2 hH2 => ?_
  repeat' (first | refine zP ?_ | refine zA ?_ | (refine zM ?_; intro _ _) | refine zX ?_ | (refine zC ?_; intro _ _ _ _) | (refine zS ?_; intro _ _) | (apply Ws <;> intro hg))
  exact Ends.end0 ⟨v', Mx', n', h1, hn, hH2⟩
end
end Go.Proofs.Ytfnflkcjhefddaa.Lk

/- Barges are brought in and taken out. -/
namespace Go.Proofs.Ytfnflkcjhefddaa.Lk
open Go Go.Abs Go.Mth
set_option linter.unusedVariables false
set_option linter.unusedSimpArgs false
/-- Two basins in memory. -/
def BB (b : Nat) (p q : List Nat) (M : HL) (n : Nat) (H : Heap) : Prop := ∃ v0 v1 M0 M1, StkO 3 v0 (nodes p.reverse) M0 ∧ StkO 3 v1 (nodes q.reverse) M1 ∧ hasH ((b, .row 109 0 0 [v0, v1]) :: (M0 ++ (M1 ++ M))) n H
def tkB (p q : List Nat) (a : Nat) : Bool := decide (p.head? = some a) || decide (q.head? = some a)
def tkP (p : List Nat) (a : Nat) : List Nat := if p.head? = some a then p.tail else p
def tkQ (p q : List Nat) (a : Nat) : List Nat := if p.head? = some a then q else if q.head? = some a then q.tail else q
theorem nodes_snoc (l : List Nat) (x : Nat) : nodes (l ++ [x]) = nodes l ++ [.int .i64 (x : Int)] := by simp [nodes]
theorem nodes_cons_rev (l : List Nat) (x : Nat) : nodes (x :: l).reverse = nodes l.reverse ++ [.int .i64 (x : Int)] := by rw [List.reverse_cons, nodes_snoc]
theorem nodes_len' (l : List Nat) : (nodes l).length = l.length := by simp [nodes]
/-- The first two parts change places. -/
theorem swap2 {p : Nat × Ch} {A B M : HL} {n : Nat} {H : Heap} (h : hasH (p :: (A ++ (B ++ M))) n H) : hasH (p :: (B ++ (A ++ M))) n H :=
  h.perm (.cons _ (List.perm_append_comm_assoc A B M))
attribute [local irreducible] gOK WS WC WR WD Ends FS YS OpV seqK blockK loopK midK retK rdK asgK rangeEnd sat Cell
section
variable {M : HL} {n0 : Nat} {H : Heap} {v w : Value}
set_option maxHeartbeats 1000000 in
theorem takeLast_fs {b cap : Nat} {p q : List Nat} (hB : BB b p q M n0 H) (a : Nat) :
    FS C 108 [.slice (some ⟨b, 0, some 0⟩) 2 cap, .int .i64 (a : Int)] H (fun e H' => e = .bool (tkB p q a) ∧ BB b (tkP p a) (tkQ p q a) M n0 H') := by
  obtain ⟨v0, v1, M0, M1, hp, hq, hH⟩ := hB
  refine FS.intro (pf := pf108) rfl rfl rfl ?_
  repeat' (first | refine zP ?_ | refine zA ?_ | (refine zM ?_; intro _ _) | refine zX ?_ | (refine zC ?_; intro _ _ _ _) | (refine zS ?_; intro _ _) | (apply Ws <;> intro hg))
  refine WC.loopX [(0, _), (1, _), (7, _), (8, _)] (fun k : Nat => [(9, .int .i64 (k : Int))]) [] (fun k H' => H' = H ∧ k ≤ 2 ∧ (1 ≤ k → p.head? ≠ some a) ∧ (2 ≤ k → q.head? ≠ some a)) (fun k => 2 - k) 0 (by repeat' (first | exact .nil | refine .cons rfl ?_)) rfl ⟨rfl, by omega, by omega, by omega⟩ ?_
  rintro k H' ⟨rfl, hk, h1, h2⟩
  dsimp only [List.cons_append, List.nil_append]
  repeat' (first | refine zP ?_ | refine zA ?_ | (refine zM ?_; intro _ _) | refine zX ?_ | (refine zC ?_; intro _ _ _ _) | (refine zS ?_; intro _ _) | (apply Ws <;> intro hg))
  refine WC.condP rfl (fun hlt => ?_) (fun hlt => ?_)
  · rcases (show k = 0 ∨ k = 1 by omega) with rfl | rfl
    · have hC := cell_row (M := (b, Ch.row 109 0 0 [v0, v1]) :: (M0 ++ (M1 ++ M))) (.head _) (o := 0) (v := v0) rfl
      repeat' (first | refine zP ?_ | refine zA ?_ | (refine zM ?_; intro _ _) | refine zX ?_ | (refine zC ?_; intro _ _ _ _) | (refine zS ?_; intro _ _) | refine zO ?_ | (apply Ws <;> intro hg))
      refine WR.call (by first | exact gN | exact gS rfl) rfl rfl (isEmpty_fs hH hC (hp.sl _).cons) ?_
      rintro _ H1 ⟨rfl, rfl⟩
      cases p with
      | nil =>
        rw [decide_eq_true (by rfl)]
        repeat' (first | refine zP ?_ | refine zA ?_ | (refine zM ?_; intro _ _) | refine zX ?_ | (refine zC ?_; intro _ _ _ _) | (refine zS ?_; intro _ _) | refine zO ?_ | (apply Ws <;> intro hg))
        exact Ends.loop 1 (by omega) (by repeat' (first | exact .nil | refine .cons rfl ?_)) rfl ⟨rfl, by omega, fun _ => by simp, by omega⟩
      | cons x p =>
        rw [decide_eq_false (by simp)]
        rw [nodes_cons_rev] at hp
        have hbd := StkO.len hp
        rw [List.length_append, List.length_singleton] at hbd
        repeat' (first | refine zP ?_ | refine zA ?_ | (refine zM ?_; intro _ _) | refine zX ?_ | (refine zC ?_; intro _ _ _ _) | (refine zS ?_; intro _ _) | refine zO ?_ | (apply Ws <;> intro hg))
        refine WR.call (by first | exact gN | exact gS rfl) rfl rfl (last_fs hH hC (hp.sl _).cons (by omega)) ?_
        rintro _ H2 ⟨rfl, rfl⟩
        repeat' (first | refine zP ?_ | refine zA ?_ | (refine zM ?_; intro _ _) | refine zX ?_ | (refine zC ?_; intro _ _ _ _) | (refine zS ?_; intro _ _) | (apply Ws <;> intro hg))
        refine WC.condP rfl (fun he => ?_) (fun he => ?_)
        · have he2 : x = a := by omega
          subst he2
          repeat' (first | refine zP ?_ | refine zA ?_ | (refine zM ?_; intro _ _) | refine zX ?_ | (refine zC ?_; intro _ _ _ _) | (refine zS ?_; intro _ _) | (apply Ws <;> intro hg))
          refine WR.call (by first | exact gN | exact gS rfl) rfl rfl (take_fs hp hH rfl) ?_
          rintro _ H3 ⟨rfl, v', hv', hH3⟩
          repeat' (first | refine zP ?_ | refine zA ?_ | (refine zM ?_; intro _ _) | refine zX ?_ | (refine zC ?_; intro _ _ _ _) | (refine zS ?_; intro _ _) | (apply Ws <;> intro hg))
          refine Ends.ret1 rfl ⟨by simp [tkB], by simp only [tkP, tkQ, List.head?_cons, if_true, List.tail_cons]; exact ⟨v', v1, M0, M1, hv', hq, hH3⟩⟩
        · repeat' (first | refine zP ?_ | refine zA ?_ | (refine zM ?_; intro _ _) | refine zX ?_ | (refine zC ?_; intro _ _ _ _) | (refine zS ?_; intro _ _) | (apply Ws <;> intro hg))
          exact Ends.loop 1 (by omega) (by repeat' (first | exact .nil | refine .cons rfl ?_)) rfl ⟨rfl, by omega, fun _ => by simp; omega, by omega⟩
    · have hC := cell_row (M := (b, Ch.row 109 0 0 [v0, v1]) :: (M1 ++ (M0 ++ M))) (.head _) (o := 1) (v := v1) rfl
      have hpa := h1 (Nat.le_refl _)
      replace hH := swap2 hH
      repeat' (first | refine zP ?_ | refine zA ?_ | (refine zM ?_; intro _ _) | refine zX ?_ | (refine zC ?_; intro _ _ _ _) | (refine zS ?_; intro _ _) | refine zO ?_ | (apply Ws <;> intro hg))
      refine WR.call (by first | exact gN | exact gS rfl) rfl rfl (isEmpty_fs hH hC (hq.sl _).cons) ?_
      rintro _ H1 ⟨rfl, rfl⟩
      cases q with
      | nil =>
        rw [decide_eq_true (by rfl)]
        repeat' (first | refine zP ?_ | refine zA ?_ | (refine zM ?_; intro _ _) | refine zX ?_ | (refine zC ?_; intro _ _ _ _) | (refine zS ?_; intro _ _) | refine zO ?_ | (apply Ws <;> intro hg))
        exact Ends.loop 2 (by omega) (by repeat' (first | exact .nil | refine .cons rfl ?_)) rfl ⟨rfl, by omega, fun _ => hpa, fun _ => by simp⟩
      | cons x q =>
        rw [decide_eq_false (by simp)]
        rw [nodes_cons_rev] at hq
        have hbd := StkO.len hq
        rw [List.length_append, List.length_singleton] at hbd
        repeat' (first | refine zP ?_ | refine zA ?_ | (refine zM ?_; intro _ _) | refine zX ?_ | (refine zC ?_; intro _ _ _ _) | (refine zS ?_; intro _ _) | refine zO ?_ | (apply Ws <;> intro hg))
        refine WR.call (by first | exact gN | exact gS rfl) rfl rfl (last_fs hH hC (hq.sl _).cons (by omega)) ?_
        rintro _ H2 ⟨rfl, rfl⟩
        repeat' (first | refine zP ?_ | refine zA ?_ | (refine zM ?_; intro _ _) | refine zX ?_ | (refine zC ?_; intro _ _ _ _) | (refine zS ?_; intro _ _) | (apply Ws <;> intro hg))
        refine WC.condP rfl (fun he => ?_) (fun he => ?_)
        · have he2 : x = a := by omega
          subst he2
          repeat' (first | refine zP ?_ | refine zA ?_ | (refine zM ?_; intro _ _) | refine zX ?_ | (refine zC ?_; intro _ _ _ _) | (refine zS ?_; intro _ _) | (apply Ws <;> intro hg))
          refine WR.call (by first | exact gN | exact gS rfl) rfl rfl (take_fs hq hH rfl) ?_
          rintro _ H3 ⟨rfl, v', hv', hH3⟩
          repeat' (first | refine zP ?_ | refine zA ?_ | (refine zM ?_; intro _ _) | refine zX ?_ | (refine zC ?_; intro _ _ _ _) | (refine zS ?_; intro _ _) | (apply Ws <;> intro hg))
          refine Ends.ret1 rfl ⟨by simp [tkB], by simp only [tkP, tkQ, List.head?_cons, if_true, List.tail_cons, if_neg hpa]; exact ⟨v0, v', M0, M1, hp, hv', swap2 hH3⟩⟩
        · repeat' (first | refine zP ?_ | refine zA ?_ | (refine zM ?_; intro _ _) | refine zX ?_ | (refine zC ?_; intro _ _ _ _) | (refine zS ?_; intro _ _) | (apply Ws <;> intro hg))
          exact Ends.loop 2 (by omega) (by repeat' (first | exact .nil | refine .cons rfl ?_)) rfl ⟨rfl, by omega, fun _ => hpa, fun _ => by simp; omega⟩
  · have hk2 : k = 2 := by omega
    subst hk2
    have hpa := h1 (by omega)
    have hqa := h2 (by omega)
    repeat' (first | refine zP ?_ | refine zA ?_ | (refine zM ?_; intro _ _) | refine zX ?_ | (refine zC ?_; intro _ _ _ _) | (refine zS ?_; intro _ _) | (apply Ws <;> intro hg))
    refine Ends.ret1 rfl ⟨by simp [tkB, hpa, hqa], ?_⟩
    simp only [tkP, tkQ, if_neg hpa, if_neg hqa]
    exact ⟨v0, v1, M0, M1, hp, hq, hH⟩
end
end Go.Proofs.Ytfnflkcjhefddaa.Lk

/- Barges are brought in, and taken out as soon as they can be. -/
namespace Go.Proofs.Ytfnflkcjhefddaa.Lk
open Go Go.Abs Go.Mth
set_option linter.unusedVariables false
set_option linter.unusedSimpArgs false
/-- What is told of each move. -/
def TellK (fn : Nat) (caps : List Value) (J : List (Nat × Nat) → HL → Prop) (M : HL) : Prop := ∀ (tr : List (Nat × Nat)) (Mj F : HL) (n : Nat) (H : Heap) (a x : Nat), J tr Mj → tr.length ≤ 100 → (a = 105 ∨ a = 111) → hasH (F ++ (Mj ++ M)) n H →
  FS C fn ([] ++ [.int .u8 (a : Int), .int .i64 (x : Int)] ++ caps) H (fun e H' => ∃ Mj' n', J (tr ++ [(a, x)]) Mj' ∧ n ≤ n' ∧ hasH (F ++ (Mj' ++ M)) n' H')
theorem BB.tell {fn : Nat} {caps : List Value} {J : List (Nat × Nat) → HL → Prop} {M Mj : HL} {b n : Nat} {H : Heap} {p q : List Nat} {tr : List (Nat × Nat)} (hT : TellK fn caps J M) (h : BB b p q (Mj ++ M) n H) (hJ : J tr Mj) (hl : tr.length ≤ 100) (a x : Nat) (ha : a = 105 ∨ a = 111) :
    FS C fn ([] ++ [.int .u8 (a : Int), .int .i64 (x : Int)] ++ caps) H (fun e H' => ∃ Mj' n', J (tr ++ [(a, x)]) Mj' ∧ n ≤ n' ∧ BB b p q (Mj' ++ M) n' H') := by
  obtain ⟨v0, v1, M0, M1, hp, hq, hH⟩ := h
  refine (hT tr Mj ((b, .row 109 0 0 [v0, v1]) :: (M0 ++ M1)) n H a x hJ hl ha (by rw [List.cons_append, List.append_assoc]; exact hH)).mono ?_
  rintro e H' ⟨Mj', n', h1, h2, h3⟩
  refine ⟨Mj', n', h1, h2, v0, v1, M0, M1, hp, hq, ?_⟩
  rw [List.cons_append, List.append_assoc] at h3
  exact h3
theorem BB.bring {M : HL} {b n o : Nat} {H : Heap} {p q : List Nat} (h : BB b p q M n H) (x : Nat) (ho : o < 2) (hl : p.length ≤ 1000 ∧ q.length ≤ 1000) :
    FS C 98 [ptrO b o, .int .i64 (x : Int)] H (fun e H' => ∃ n', n ≤ n' ∧ BB b (if o = 0 then x :: p else p) (if o = 0 then q else x :: q) M n' H') := by
  obtain ⟨v0, v1, M0, M1, hp, hq, hH⟩ := h
  rcases (show o = 0 ∨ o = 1 by omega) with rfl | rfl
  · refine (bring_fs hp hH rfl (by simp; omega)).mono ?_
    rintro e H' ⟨v', Mx', n', h1, h2, h3⟩
    refine ⟨n', h2, v', v1, Mx', M1, ?_, hq, h3⟩
    rw [if_pos rfl, nodes_cons_rev]; exact h1
  · refine (bring_fs hq (swap2 hH) rfl (by simp; omega)).mono ?_
    rintro e H' ⟨v', Mx', n', h1, h2, h3⟩
    refine ⟨n', h2, v0, v', M0, Mx', hp, ?_, swap2 h3⟩
    rw [if_neg (by decide), nodes_cons_rev]; exact h1
theorem BB.sl {M : HL} {b n : Nat} {H : Heap} {p q : List Nat} (h : BB b p q M n H) : ∃ U, hasH U n H ∧ ∀ z ∈ M, z ∈ U := by
  obtain ⟨v0, v1, M0, M1, hp, hq, hH⟩ := h
  exact ⟨_, hH, fun z hz => List.mem_cons_of_mem _ (List.mem_append_right _ (List.mem_append_right _ hz))⟩
structure FX where
  k : Nat
  vw : Value
  Mj : HL
  n : Nat
structure FY where
  p : List Nat
  q : List Nat
  ws : List Nat
  tr : List (Nat × Nat)
  vw : Value
  Mj : HL
  n : Nat
/-- How many lie in the basins. -/
theorem popAll_len : ∀ (ws p q : List Nat), (popAll p q ws).1.length ≤ p.length ∧ (popAll p q ws).2.1.length ≤ q.length ∧ (popAll p q ws).2.2.length ≤ ws.length
  | [], p, q => by simp [popAll]
  | w :: ws, p, q => by
    simp only [popAll]
    split
    · have := popAll_len ws p.tail q; simp at this ⊢; omega
    · split
      · have := popAll_len ws p q.tail; simp at this ⊢; omega
      · simp
theorem basK_len (o t ws : List Nat) : ∀ k, (basK o t ws k).1.length ≤ k ∧ (basK o t ws k).2.1.length ≤ k
  | 0 => by simp [basK]
  | k + 1 => by
    have ih := basK_len o t ws k
    simp only [basK, put2]
    split
    · have := popAll_len (basK o t ws k).2.2 (o.getD k 0 :: (basK o t ws k).1) (basK o t ws k).2.1; rw [List.length_cons] at this; omega
    · have := popAll_len (basK o t ws k).2.2 (basK o t ws k).1 (o.getD k 0 :: (basK o t ws k).2.1); rw [List.length_cons] at this; omega
theorem pop_yes {p q : List Nat} {w : Nat} (h : tkB p q w = true) (ws : List Nat) : popAll p q (w :: ws) = popAll (tkP p w) (tkQ p q w) ws ∧ popTr p q (w :: ws) = (111, w) :: popTr (tkP p w) (tkQ p q w) ws := by
  simp only [tkB, Bool.or_eq_true, decide_eq_true_eq] at h
  simp only [popAll, popTr, tkP, tkQ]
  by_cases h1 : p.head? = some w
  · simp only [if_pos h1]; exact ⟨trivial, trivial⟩
  · have h2 := h.resolve_left h1
    simp only [if_neg h1, if_pos h2]; exact ⟨trivial, trivial⟩
theorem pop_no {p q : List Nat} {w : Nat} (h : tkB p q w = false) (ws : List Nat) : popAll p q (w :: ws) = (p, q, w :: ws) ∧ popTr p q (w :: ws) = [] := by
  simp only [tkB, Bool.or_eq_false_iff, decide_eq_false_iff_not] at h
  simp only [popAll, popTr, if_neg h.1, if_neg h.2]; exact ⟨trivial, trivial⟩
theorem no_same {p q : List Nat} {w : Nat} (h : tkB p q w = false) : tkP p w = p ∧ tkQ p q w = q := by
  simp only [tkB, Bool.or_eq_false_iff, decide_eq_false_iff_not] at h
  simp only [tkP, tkQ, if_neg h.1, if_neg h.2]; exact ⟨trivial, trivial⟩
attribute [local irreducible] gOK WS WC WR WD Ends FS YS OpV seqK blockK loopK midK retK rdK asgK rangeEnd sat Cell
section
variable {M : HL} {n0 : Nat} {H : Heap} {v w : Value}
set_option maxHeartbeats 2000000 in
theorem fetch_fs {fn : Nat} {caps : List Value} {J : List (Nat × Nat) → HL → Prop} (hT : TellK fn caps J M) {Mj : HL} (hJ : J [] Mj) {o ws t : List Nat} {vo vw vt : Value} (ho : Sl M 1 vo (nodes o)) (hw : Sl M 1 vw (nodes ws)) (ht : Sl M 1 vt (nodes t))
    (hol : o.length ≤ 10) (hwl : ws.length ≤ 10) (htl : o.length ≤ t.length) (ht2 : ∀ x ∈ t, x < 2) (hH : hasH (Mj ++ M) n0 H) :
    FS C 80 [vo, vw, vt, .func (.func fn) [].toArray caps.toArray] H (fun e H' => ∃ Mj' n', e = .bool (decide ((basK o t ws o.length).2.2 = [])) ∧ J (trK o t ws o.length) Mj' ∧ n0 ≤ n' ∧ hasH (Mj' ++ M) n' H') := by
  have ho0 := ho.mono fun q hq => List.mem_append_right Mj hq
  refine FS.intro (pf := pf80) rfl rfl rfl ?_
  repeat' (first | refine zP ?_ | refine zA ?_ | (refine zM ?_; intro _ _) | refine zX ?_ | (refine zC ?_; intro _ _ _ _) | (refine zS ?_; intro _ _) | (apply Ws <;> intro hg))
  rename_i H1 hH1
  have ho1 := ho0.cons (p := (n0, Ch.row 109 0 0 [.slice none 0 0, .slice none 0 0]))
  repeat' (first | refine zP ?_ | refine zA ?_ | (refine zM ?_; intro _ _) | refine zX ?_ | (refine zC ?_; intro _ _ _ _) | (refine zS ?_; intro _ _) | (apply Ws <;> intro hg))
  have hB1 : BB n0 [] [] (Mj ++ M) (n0 + 1) H1 := ⟨_, _, [], [], .nil, .nil, hH1⟩
  clear ho0 ho1 hH hH1
  refine WC.loopX [(0, vo), (2, vt), (3, .func (.func fn) [].toArray caps.toArray), (9, ptrO n0 0), (12, vo), (13, .int .i64 (o.length : Int))] (fun z : FX => [(14, .int .i64 (z.k : Int)), (1, z.vw)]) []
    (fun z H' => z.k ≤ o.length ∧ Sl M 1 z.vw (nodes (basK o t ws z.k).2.2) ∧ J (trK o t ws z.k) z.Mj ∧ n0 ≤ z.n ∧ BB n0 (basK o t ws z.k).1 (basK o t ws z.k).2.1 (z.Mj ++ M) z.n H') (fun z => o.length - z.k) ⟨0, vw, Mj, n0 + 1⟩ (by repeat' (first | exact .nil | refine .cons rfl ?_)) rfl
    ⟨Nat.zero_le _, hw, hJ, Nat.le_succ _, hB1⟩ ?_
  clear hB1 hJ hw
  rintro ⟨k, vw, Mj, n1⟩ H2 ⟨hk, hw, hJ, hn1, hB⟩
  simp only at hk hw hJ hn1 hB
  have hlen := trK_len o t ws k
  have hbl := basK_len o t ws k
  have hsucc : basK o t ws (k + 1) = put2 (basK o t ws k) (o.getD k 0) (t.getD k 0) := rfl
  have htsucc : trK o t ws (k + 1) = trK o t ws k ++ putTr (basK o t ws k) (o.getD k 0) (t.getD k 0) := rfl
  dsimp only [List.cons_append, List.nil_append]
  obtain ⟨U, hU, hMU⟩ := hB.sl
  have hoU := ho.mono fun q hq => hMU q (List.mem_append_right _ hq)
  have htU := ht.mono fun q hq => hMU q (List.mem_append_right _ hq)
  repeat' (first | refine zP ?_ | refine zA ?_ | (refine zM ?_; intro _ _) | refine zX ?_ | (refine zC ?_; intro _ _ _ _) | (refine zS ?_; intro _ _) | (apply Ws <;> intro hg))
  refine WC.condP rfl (fun hlt => ?_) (fun hlt => ?_)
  · have hk' : k < o.length := by omega
    have hkt : k < t.length := by omega
    have hbt : t.getD k 0 < 2 := ht2 _ (getD_mem hkt)
    repeat' (first | refine zP ?_ | refine zA ?_ | (refine zM ?_; intro _ _) | refine zX ?_ | (refine zC ?_; intro _ _ _ _) | (refine zS ?_; intro _ _) | (apply Ws <;> intro hg))
    refine WR.call (by first | exact gN | exact gS rfl) rfl rfl (hB.bring (o.getD k 0) hbt (by omega)) ?_
    clear hB hU hoU htU hMU
    rintro _ H3 ⟨n3, hn3, hB⟩
    repeat' (first | refine zP ?_ | refine zA ?_ | (refine zM ?_; intro _ _) | refine zX ?_ | (refine zC ?_; intro _ _ _ _) | (refine zS ?_; intro _ _) | (apply Ws <;> intro hg))
    refine WR.callV (by first | exact gN | exact gS rfl) rfl rfl rfl (hB.tell hT hJ (by omega) 105 (o.getD k 0) (.inl rfl)) ?_
    rintro _ H4 ⟨Mj4, n4, hJ4, hn4, hB4⟩
    clear hB hJ
    repeat' (first | refine zP ?_ | refine zA ?_ | (refine zM ?_; intro _ _) | refine zX ?_ | (refine zC ?_; intro _ _ _ _) | (refine zS ?_; intro _ _) | (apply Ws <;> intro hg))
    obtain ⟨p0, hp0⟩ : ∃ p0, (if t.getD k 0 = 0 then o.getD k 0 :: (basK o t ws k).1 else (basK o t ws k).1) = p0 := ⟨_, rfl⟩
    obtain ⟨q0, hq0⟩ : ∃ q0, (if t.getD k 0 = 0 then (basK o t ws k).2.1 else o.getD k 0 :: (basK o t ws k).2.1) = q0 := ⟨_, rfl⟩
    have hput : put2 (basK o t ws k) (o.getD k 0) (t.getD k 0) = popAll p0 q0 (basK o t ws k).2.2 := by
      rw [← hp0, ← hq0]; unfold put2; split <;> rfl
    have hptr : putTr (basK o t ws k) (o.getD k 0) (t.getD k 0) = (105, o.getD k 0) :: popTr p0 q0 (basK o t ws k).2.2 := by
      rw [← hp0, ← hq0]; unfold putTr; split <;> rfl
    rw [hp0, hq0] at hB4
    rw [hput] at hsucc
    rw [hptr, List.append_cons] at htsucc
    clear hput hptr hp0 hq0
    have hl4 : (trK o t ws k ++ [(105, o.getD k 0)]).length + (basK o t ws k).2.2.length ≤ 30 := by simp; omega
    generalize (basK o t ws k).2.2 = ws0 at *
    generalize trK o t ws k ++ [(105, o.getD k 0)] = tr0 at *
    generalize o.getD k 0 = x at *
    refine WC.loopX [(0, vo), (2, vt), (3, .func (.func fn) [].toArray caps.toArray), (9, ptrO n0 0), (12, vo), (13, .int .i64 (o.length : Int)), (14, .int .i64 (k : Int))] (fun z : FY => [(1, z.vw)]) []
      (fun z H' => Sl M 1 z.vw (nodes z.ws) ∧ J z.tr z.Mj ∧ n0 ≤ z.n ∧ BB n0 z.p z.q (z.Mj ++ M) z.n H' ∧ popAll z.p z.q z.ws = popAll p0 q0 ws0 ∧ z.tr ++ popTr z.p z.q z.ws = tr0 ++ popTr p0 q0 ws0 ∧ z.tr.length + z.ws.length ≤ 30) (fun z => z.ws.length) ⟨p0, q0, ws0, tr0, vw, Mj4, n4⟩ (by repeat' (first | exact .nil | refine .cons rfl ?_)) rfl
      ⟨hw, hJ4, by simp only; omega, hB4, rfl, rfl, hl4⟩ ?_
    clear hB4 hJ4 hw hl4
    rintro ⟨p, q, ws1, tr, vw1, Mj5, n5⟩ H5 ⟨hw, hJ, hn5, hB, hpop, htr, hl5⟩
    simp only at hw hJ hn5 hB hpop htr hl5
    dsimp only [List.cons_append, List.nil_append]
    obtain ⟨U, hU, hMU⟩ := hB.sl
    have hwU := hw.mono fun q hq => hMU q (List.mem_append_right _ hq)
    cases ws1 with
    | nil =>
      have e1 : basK o t ws (k + 1) = (p, q, []) := by rw [hsucc, ← hpop]; rfl
      have e2 : trK o t ws (k + 1) = tr := by rw [htsucc, ← htr]; exact List.append_nil _
      have hwl0 : ([] : List Nat).length = 0 := rfl
      repeat' (first | refine zP ?_ | refine zA ?_ | (refine zM ?_; intro _ _) | refine zX ?_ | (refine zC ?_; intro _ _ _ _) | (refine zS ?_; intro _ _) | refine zO ?_ | (apply Ws <;> intro hg))
      refine Ends.loop ⟨k + 1, vw1, Mj5, n5⟩ (by simp only; omega) (by repeat' (first | exact .nil | refine .cons rfl ?_)) rfl ⟨hk', ?_, ?_, hn5, ?_⟩
      · simp only [e1]; exact hw
      · simp only [e2]; exact hJ
      · simp only [e1]; exact hB
    | cons w ws2 =>
      have hl6 : (w :: ws2).length = ws2.length + 1 := rfl
      have hg0 : (w :: ws2).getD 0 0 = w := rfl
      repeat' (first | refine zP ?_ | refine zA ?_ | (refine zM ?_; intro _ _) | refine zX ?_ | (refine zC ?_; intro _ _ _ _) | (refine zS ?_; intro _ _) | refine zO ?_ | (apply Ws <;> intro hg))
      refine WR.op (by first | exact gN | exact gS rfl) rfl (OpV.slA rfl (by decide)) ?_
      repeat' (first | refine zP ?_ | refine zA ?_ | (refine zM ?_; intro _ _) | refine zX ?_ | (refine zC ?_; intro _ _ _ _) | (refine zS ?_; intro _ _) | refine zO ?_ | (apply Ws <;> intro hg))
      refine WR.call (by first | exact gN | exact gS rfl) rfl rfl (takeLast_fs hB w) ?_
      rintro _ H6 ⟨rfl, hB6⟩
      clear hU hwU hMU hB
      cases hb : tkB p q w with
      | false =>
        have e0 := pop_no hb ws2
        have e9 := no_same hb
        rw [e9.1, e9.2] at hB6
        have e1 : basK o t ws (k + 1) = (p, q, w :: ws2) := by rw [hsucc, ← hpop, e0.1]
        have e2 : trK o t ws (k + 1) = tr := by rw [htsucc, ← htr, e0.2]; exact List.append_nil _
        repeat' (first | refine zP ?_ | refine zA ?_ | (refine zM ?_; intro _ _) | refine zX ?_ | (refine zC ?_; intro _ _ _ _) | (refine zS ?_; intro _ _) | refine zO ?_ | (apply Ws <;> intro hg))
        refine Ends.loop ⟨k + 1, vw1, Mj5, n5⟩ (by simp only; omega) (by repeat' (first | exact .nil | refine .cons rfl ?_)) rfl ⟨hk', ?_, ?_, hn5, ?_⟩
        · simp only [e1]; exact hw
        · simp only [e2]; exact hJ
        · simp only [e1]; exact hB6
      | true =>
        have e0 := pop_yes hb ws2
        obtain ⟨U, hU, hMU⟩ := hB6.sl
        have hwU := hw.mono fun q hq => hMU q (List.mem_append_right _ hq)
        repeat' (first | refine zP ?_ | refine zA ?_ | (refine zM ?_; intro _ _) | refine zX ?_ | (refine zC ?_; intro _ _ _ _) | (refine zS ?_; intro _ _) | refine zO ?_ | (apply Ws <;> intro hg))
        refine WR.callV (by first | exact gN | exact gS rfl) rfl rfl rfl (hB6.tell hT hJ (by omega) 111 w (.inr rfl)) ?_
        rintro _ H7 ⟨Mj7, n7, hJ7, hn7, hB7⟩
        repeat' (first | refine zP ?_ | refine zA ?_ | (refine zM ?_; intro _ _) | refine zX ?_ | (refine zC ?_; intro _ _ _ _) | (refine zS ?_; intro _ _) | (apply Ws <;> intro hg))
        refine WR.cutLoN (a := 1) (by first | exact gN | exact gS rfl) rfl rfl hw rfl (by rw [hl6]; omega) fun v' hv' => ?_
        repeat' (first | refine zP ?_ | refine zA ?_ | (refine zM ?_; intro _ _) | refine zX ?_ | (refine zC ?_; intro _ _ _ _) | (refine zS ?_; intro _ _) | (apply Ws <;> intro hg))
        refine Ends.loop ⟨tkP p w, tkQ p q w, ws2, tr ++ [(111, w)], v', Mj7, n7⟩ (by simp only [hl6]; omega) (by repeat' (first | exact .nil | refine .cons rfl ?_)) rfl ⟨hv', hJ7, by simp only; omega, hB7, ?_, ?_, ?_⟩
        · simp only [← e0.1]; exact hpop
        · rw [← htr, e0.2]; simp
        · simp only [List.length_append, List.length_singleton]; omega
  · have hkn : k = o.length := by omega
    subst hkn
    have hw2 := hw.mono fun q hq => hMU q (List.mem_append_right _ hq)
    obtain ⟨we, hwe⟩ : ∃ we, (basK o t ws o.length).2.2 = we := ⟨_, rfl⟩
    rw [hwe] at hw2 ⊢
    have hwl2 : we.length ≤ 100 := by rw [← hwe]; omega
    clear hw hsucc htsucc hlen
    repeat' (first | refine zP ?_ | refine zA ?_ | (refine zM ?_; intro _ _) | refine zX ?_ | (refine zC ?_; intro _ _ _ _) | (refine zS ?_; intro _ _) | (apply Ws <;> intro hg))
    obtain ⟨v0, v1, M0, M1, hp, hq, hH⟩ := hB
    refine Ends.ret1 rfl ⟨Mj, n1, ?_, hJ, hn1, hH.sub (((List.sublist_append_right M1 _).trans (List.sublist_append_right M0 _)).cons _)⟩
    congr 1
    rw [decide_eq_decide, ← List.length_eq_zero_iff]
    omega
end
end Go.Proofs.Ytfnflkcjhefddaa.Lk

/- Whether barges can leave in the ascending order. -/
namespace Go.Proofs.Ytfnflkcjhefddaa.Lk
open Go Go.Abs Go.Mth
set_option linter.unusedVariables false
set_option linter.unusedSimpArgs false
def ascT (o t : List Nat) : Bool := decide ((basK o t (List.range o.length) o.length).2.2 = [])
structure UX where
  k : Nat
  v : Value
  Mx : HL
  n : Nat
attribute [local irreducible] gOK WS WC WR WD Ends FS YS OpV seqK blockK loopK midK retK rdK asgK rangeEnd sat Cell
section
variable {M : HL} {n0 : Nat} {H : Heap} {v w : Value}
theorem upTo_fs (hH : hasH M n0 H) {n : Nat} (hn : n ≤ 1000) :
    FS C 81 [.int .i64 (n : Int)] H (fun e H' => ∃ Mx n', Own 3 1 e (nodes (List.range n)) Mx ∧ n0 ≤ n' ∧ hasH (Mx ++ M) n' H') := by
  refine FS.intro (pf := pf81) rfl rfl rfl ?_
  repeat' (first | refine zP ?_ | refine zA ?_ | (refine zM ?_; intro _ _) | refine zX ?_ | (refine zC ?_; intro _ _ _ _) | (refine zS ?_; intro _ _) | (apply Ws <;> intro hg))
  refine WC.loopX [(0, .int .i64 (n : Int)), (5, .int .i64 (n : Int))] (fun z : UX => [(6, .int .i64 (z.k : Int)), (3, z.v)]) [] (fun z H' => z.k ≤ n ∧ Own 3 1 z.v (nodes (List.range z.k)) z.Mx ∧ n0 ≤ z.n ∧ hasH (z.Mx ++ M) z.n H') (fun z => n - z.k) ⟨0, .slice none 0 0, [], n0⟩ (by repeat' (first | exact .nil | refine .cons rfl ?_)) rfl ⟨Nat.zero_le _, .nil, Nat.le_refl _, hH⟩ ?_
  clear hH
  rintro ⟨k, v, Mx, n1⟩ H1 ⟨hk, hO, hn1, hH⟩
  simp only at hk hO hn1 hH
  dsimp only [List.cons_append, List.nil_append]
  repeat' (first | refine zP ?_ | refine zA ?_ | (refine zM ?_; intro _ _) | refine zX ?_ | (refine zC ?_; intro _ _ _ _) | (refine zS ?_; intro _ _) | (apply Ws <;> intro hg))
  refine WC.condP rfl (fun hlt => ?_) (fun hlt => ?_)
  · have hk' : k < n := by omega
    repeat' (first | refine zP ?_ | refine zA ?_ | (refine zM ?_; intro _ _) | refine zX ?_ | (refine zC ?_; intro _ _ _ _) | (refine zS ?_; intro _ _) | (apply Ws <;> intro hg))
    refine WR.append1F [] Mx M rfl rfl rfl rfl hO hH (new := [.int .i64 (k : Int)]) rfl rfl rfl (Nat.le_refl _) (by decide) (by simp; omega) fun v' Mx' n' H' h1 h2 h3 => ?_
    repeat' (first | refine zP ?_ | refine zA ?_ | (refine zM ?_; intro _ _) | refine zX ?_ | (refine zC ?_; intro _ _ _ _) | (refine zS ?_; intro _ _) | (apply Ws <;> intro hg))
    refine Ends.loop ⟨k + 1, v', Mx', n'⟩ (by simp only; omega) (by repeat' (first | exact .nil | refine .cons rfl ?_)) rfl ⟨hk', ?_, by simp only; omega, h2⟩
    have : nodes (List.range (k + 1)) = nodes (List.range k) ++ [.int .i64 (k : Int)] := by rw [List.range_succ, nodes_snoc]
    simp only [this]; exact h1
  · have hkn : k = n := by omega
    subst hkn
    repeat' (first | refine zP ?_ | refine zA ?_ | (refine zM ?_; intro _ _) | refine zX ?_ | (refine zC ?_; intro _ _ _ _) | (refine zS ?_; intro _ _) | (apply Ws <;> intro hg))
    exact Ends.ret1 rfl ⟨Mx, n1, hO, hn1, hH⟩
theorem tell_none (M : HL) : TellK 101 [] (fun _ Mj => Mj = []) M := by
  rintro tr Mj F n H a x rfl _ _ hH
  refine FS.intro (pf := pf101) rfl rfl rfl ?_
  repeat' (first | refine zP ?_ | refine zA ?_ | (refine zM ?_; intro _ _) | refine zX ?_ | (refine zC ?_; intro _ _ _ _) | (refine zS ?_; intro _ _) | (apply Ws <;> intro hg))
  exact Ends.end0 ⟨[], n, rfl, Nat.le_refl _, hH⟩
theorem canAscend_fs (hH : hasH M n0 H) {o t : List Nat} (ho : Sl M 1 v (nodes o)) (ht : Sl M 1 w (nodes t)) (hol : o.length ≤ 10) (htl : o.length ≤ t.length) (ht2 : ∀ x ∈ t, x < 2) :
    FS C 71 [v, w] H (fun e H' => ∃ n', e = .bool (ascT o t) ∧ n0 ≤ n' ∧ hasH M n' H') := by
  have hv := ho.one_
  have hw := ht.one_
  refine FS.intro (pf := pf71) rfl rfl rfl ?_
  repeat' (first | refine zP ?_ | refine zA ?_ | (refine zM ?_; intro _ _) | refine zX ?_ | (refine zC ?_; intro _ _ _ _) | (refine zS ?_; intro _ _) | (apply Ws <;> intro hg))
  refine WR.call (by first | exact gN | exact gS rfl) rfl rfl (upTo_fs hH (by omega)) ?_
  rintro vw H1 ⟨Mx, n1, hO, hn1, hH1⟩
  have hS := hO.sl M
  have ho1 := ho.mono fun q hq => List.mem_append_right Mx hq
  have ht1 := ht.mono fun q hq => List.mem_append_right Mx hq
  repeat' (first | refine zP ?_ | refine zA ?_ | (refine zM ?_; intro _ _) | refine zX ?_ | (refine zC ?_; intro _ _ _ _) | (refine zS ?_; intro _ _) | (apply Ws <;> intro hg))
  refine WR.call (by first | exact gN | exact gS rfl) rfl rfl (fetch_fs (Mj := []) (tell_none (Mx ++ M)) rfl ho1 hS ht1 hol (by simp; omega) htl ht2 hH1) ?_
  rintro _ H2 ⟨Mj, n2, rfl, rfl, hn2, hH2⟩
  repeat' (first | refine zP ?_ | refine zA ?_ | (refine zM ?_; intro _ _) | refine zX ?_ | (refine zC ?_; intro _ _ _ _) | (refine zS ?_; intro _ _) | (apply Ws <;> intro hg))
  exact Ends.ret1 rfl ⟨n2, rfl, by omega, hH2.sub (List.sublist_append_right _ _)⟩
theorem Sorted_fs (hH : hasH M n0 H) {o : List Nat} (ho : Sl M 1 v (nodes o)) (hO : OrdN o) :
    FS C 25 [v] H (fun e H' => ∃ n', e = .tuple #[.bool (ascT o (List.replicate o.length 0)), .int .i64 0] ∧ n0 ≤ n' ∧ hasH M n' H') := by
  have hv := ho.one_
  have h7 := hO.most
  refine FS.intro (pf := pf25) rfl rfl rfl ?_
  repeat' (first | refine zP ?_ | refine zA ?_ | (refine zM ?_; intro _ _) | refine zX ?_ | (refine zC ?_; intro _ _ _ _) | (refine zS ?_; intro _ _) | (apply Ws <;> intro hg))
  refine WR.call (by first | exact gN | exact gS rfl) rfl rfl (CheckN_fs hH ho hO) ?_
  rintro _ H1 ⟨rfl, rfl⟩
  repeat' (first | refine zP ?_ | refine zA ?_ | (refine zM ?_; intro _ _) | refine zX ?_ | (refine zC ?_; intro _ _ _ _) | (refine zS ?_; intro _ _) | refine zO ?_ | (apply Ws <;> intro hg))
  refine WR.mkS (m := o.length) (by first | exact gN | exact gS rfl) rfl hH rfl rfl (by omega) rfl fun H2 hH2 => ?_
  have hz : List.replicate o.length (Value.int .i64 0) = nodes (List.replicate o.length 0) := by simp [nodes]
  rw [hz] at hH2
  have hS : Sl ((n0, .row 3 0 0 (nodes (List.replicate o.length 0))) :: M) 1 (.slice (some ⟨n0, 0, some 0⟩) o.length (2 * o.length + 1)) (nodes (List.replicate o.length 0)) := by
    refine .row (.head _) (.row _ _ _ _) (Nat.le_refl _) (by simp) (by simp) (by simp) (.inr ⟨_, rfl, ?_⟩)
    omega
  repeat' (first | refine zP ?_ | refine zA ?_ | (refine zM ?_; intro _ _) | refine zX ?_ | (refine zC ?_; intro _ _ _ _) | (refine zS ?_; intro _ _) | refine zO ?_ | (apply Ws <;> intro hg))
  refine WR.call (by first | exact gN | exact gS rfl) rfl rfl (canAscend_fs hH2 ho.cons hS (by omega) (by simp) (fun x hx => by rw [(List.mem_replicate.1 hx).2]; decide)) ?_
  rintro _ H3 ⟨n3, rfl, hn3, hH3⟩
  repeat' (first | refine zP ?_ | refine zA ?_ | (refine zM ?_; intro _ _) | refine zX ?_ | (refine zC ?_; intro _ _ _ _) | (refine zS ?_; intro _ _) | refine zO ?_ | (apply Ws <;> intro hg))
  exact Ends.ret2 rfl rfl ⟨n3, rfl, by omega, hH3.tail⟩
end
end Go.Proofs.Ytfnflkcjhefddaa.Lk

/- Three places that bar an order: what they are, the first ones, and proofs. -/
namespace Go.Abs
set_option linter.unusedSectionVars false
open Go
section
variable [Globs] {C : CW}
theorem Ends.ret4 {L : Env} {H : Heap} {a b c d : Nat} {v u w y : Value} {R : Value → Heap → Prop} (hx : ev L (.tmp a) = some v) (hy : ev L (.tmp b) = some u) (hz : ev L (.tmp c) = some w) (hw : ev L (.tmp d) = some y) (h : R (.tuple #[v, u, w, y]) H) : Ends (retK [.tmp a, .tmp b, .tmp c, .tmp d] R) .ret L [] H := by
  refine Ends.ret_of trivial fun t ht => ⟨_, H, ?_, h⟩
  simp only [takeAll, leaveC, resultOf, ev_ok ht hx, ev_ok ht hy, ev_ok ht hz, ev_ok ht hw, retVal]
end
end Go.Abs
namespace Go.Proofs.Ytfnflkcjhefddaa.Lk
open Go Go.Abs Go.Mth
set_option linter.unusedVariables false
set_option linter.unusedSimpArgs false
/-- Nothing that comes before bars it. -/
def NoBefore (o : List Nat) (i j k : Nat) : Prop := ∀ a b c, a < b → b < c → c < o.length → (a < i ∨ (a = i ∧ (b < j ∨ (b = j ∧ c < k)))) → barB o a b c = false
/-- The first ones, or none. -/
def WhyR (o : List Nat) (i j k : Nat) (e : Int) : Prop := (e = 0 ∧ i < j ∧ j < k ∧ k < o.length ∧ barB o i j k = true ∧ NoBefore o i j k) ∨ (e = 13 ∧ i = 0 ∧ j = 0 ∧ k = 0 ∧ NoBar o)
def prvE (o : List Nat) (i j k : Nat) : Int := if i < j ∧ j < k then (if barB o i j k = true then 0 else 14) else 7
structure IJ where
  j : Nat
  k : Nat
attribute [local irreducible] gOK WS WC WR WD Ends FS YS OpV seqK blockK loopK midK retK rdK asgK rangeEnd sat Cell
section
variable {M : HL} {n0 : Nat} {H : Heap} {v w : Value}
theorem bar_fs (hH : hasH M n0 H) {o : List Nat} (hS : Sl M 1 v (nodes o)) {i j k : Nat} (hi : i < o.length) (hj : j < o.length) (hk : k < o.length) :
    FS C 73 [v, .int .i64 (i : Int), .int .i64 (j : Int), .int .i64 (k : Int)] H (fun e H' => H' = H ∧ e = .bool (barB o i j k)) := by
  refine FS.intro (pf := pf73) rfl rfl rfl ?_
  repeat' (first | refine zP ?_ | refine zA ?_ | (refine zM ?_; intro _ _) | refine zX ?_ | (refine zC ?_; intro _ _ _ _) | (refine zS ?_; intro _ _) | (apply Ws <;> intro hg))
  · refine Ends.ret1 rfl ⟨rfl, ?_⟩
    unfold barB
    rw [decide_eq_true (show o.getD k 0 < o.getD i 0 by omega), Bool.true_and]
    congr 1; rw [decide_eq_decide]; omega
  · refine Ends.ret1 rfl ⟨rfl, ?_⟩
    unfold barB
    rw [decide_eq_false (show ¬ o.getD k 0 < o.getD i 0 by omega)]; rfl
theorem Proves_fs (hH : hasH M n0 H) {o : List Nat} (hS : Sl M 1 v (nodes o)) (hO : OrdN o) {i j k : Nat} (hi : i < o.length) (hj : j < o.length) (hk : k < o.length) :
    FS C 31 [v, .int .i64 (i : Int), .int .i64 (j : Int), .int .i64 (k : Int)] H (fun e H' => H' = H ∧ e = .int .i64 (prvE o i j k)) := by
  have hv := hS.one_
  have hS2 : Sl M 1 v (ints (IL o)) := by rw [← nodes_IL]; exact hS
  have hpl : ∀ {a : Nat} {H : Heap}, hasH M n0 H → a < o.length → FS C 67 [v, .int .i64 (a : Int)] H (fun e H' => H' = H ∧ e = .bool true) := fun {a H} hH ha => (isPlace_fs hH hS2 (a : Int)).mono fun e H' h => ⟨h.1, by rw [h.2, decide_eq_true (by rw [IL_len]; omega)]⟩
  refine FS.intro (pf := pf31) rfl rfl rfl ?_
  clear hS2
  repeat' (first | refine zP ?_ | refine zA ?_ | (refine zM ?_; intro _ _) | refine zX ?_ | (refine zC ?_; intro _ _ _ _) | (refine zS ?_; intro _ _) | (apply Ws <;> intro hg))
  refine WR.call (by first | exact gN | exact gS rfl) rfl rfl (CheckN_fs hH hS hO) ?_
  rintro _ H1 ⟨rfl, rfl⟩
  repeat' (first | refine zP ?_ | refine zA ?_ | (refine zM ?_; intro _ _) | refine zX ?_ | (refine zC ?_; intro _ _ _ _) | (refine zS ?_; intro _ _) | refine zO ?_ | (apply Ws <;> intro hg))
  refine WR.call (by first | exact gN | exact gS rfl) rfl rfl (hpl hH hi) ?_
  rintro _ H2 ⟨rfl, rfl⟩
  repeat' (first | refine zP ?_ | refine zA ?_ | (refine zM ?_; intro _ _) | refine zX ?_ | (refine zC ?_; intro _ _ _ _) | (refine zS ?_; intro _ _) | refine zO ?_ | (apply Ws <;> intro hg))
  refine WR.call (by first | exact gN | exact gS rfl) rfl rfl (hpl hH hj) ?_
  rintro _ H3 ⟨rfl, rfl⟩
  repeat' (first | refine zP ?_ | refine zA ?_ | (refine zM ?_; intro _ _) | refine zX ?_ | (refine zC ?_; intro _ _ _ _) | (refine zS ?_; intro _ _) | refine zO ?_ | (apply Ws <;> intro hg))
  refine WR.call (by first | exact gN | exact gS rfl) rfl rfl (hpl hH hk) ?_
  rintro _ H4 ⟨rfl, rfl⟩
  by_cases h1 : i < j
  · by_cases h2 : j < k
    · repeat' (first | refine zP ?_ | refine zA ?_ | (refine zM ?_; intro _ _) | refine zX ?_ | (refine zC ?_; intro _ _ _ _) | (refine zS ?_; intro _ _) | refine zO ?_ | (apply Ws <;> intro hg))
      refine WR.call (by first | exact gN | exact gS rfl) rfl rfl (bar_fs hH hS hi hj hk) ?_
      rintro _ H5 ⟨rfl, rfl⟩
      cases hb : barB o i j k with
      | true =>
        repeat' (first | refine zP ?_ | refine zA ?_ | (refine zM ?_; intro _ _) | refine zX ?_ | (refine zC ?_; intro _ _ _ _) | (refine zS ?_; intro _ _) | refine zO ?_ | (apply Ws <;> intro hg))
        exact Ends.ret1 rfl ⟨rfl, by rw [prvE, if_pos ⟨h1, h2⟩, if_pos hb]⟩
      | false =>
        repeat' (first | refine zP ?_ | refine zA ?_ | (refine zM ?_; intro _ _) | refine zX ?_ | (refine zC ?_; intro _ _ _ _) | (refine zS ?_; intro _ _) | refine zO ?_ | (apply Ws <;> intro hg))
        exact Ends.ret1 rfl ⟨rfl, by rw [prvE, if_pos ⟨h1, h2⟩, if_neg (by rw [hb]; decide)]⟩
    · repeat' (first | refine zP ?_ | refine zA ?_ | (refine zM ?_; intro _ _) | refine zX ?_ | (refine zC ?_; intro _ _ _ _) | (refine zS ?_; intro _ _) | refine zO ?_ | (apply Ws <;> intro hg))
      exact Ends.ret1 rfl ⟨rfl, by rw [prvE, if_neg fun h => h2 h.2]⟩
  · repeat' (first | refine zP ?_ | refine zA ?_ | (refine zM ?_; intro _ _) | refine zX ?_ | (refine zC ?_; intro _ _ _ _) | (refine zS ?_; intro _ _) | refine zO ?_ | (apply Ws <;> intro hg))
    exact Ends.ret1 rfl ⟨rfl, by rw [prvE, if_neg fun h => h1 h.1]⟩
set_option maxHeartbeats 1000000 in
theorem Why_fs (hH : hasH M n0 H) {o : List Nat} (hS : Sl M 1 v (nodes o)) (hO : OrdN o) :
    FS C 27 [v] H (fun r H' => H' = H ∧ ∃ (i j k : Nat) (e : Int), WhyR o i j k e ∧ r = .tuple #[.int .i64 (i : Int), .int .i64 (j : Int), .int .i64 (k : Int), .int .i64 e]) := by
  have hv := hS.one_
  have h7 := hO.most
  refine FS.intro (pf := pf27) rfl rfl rfl ?_
  repeat' (first | refine zP ?_ | refine zA ?_ | (refine zM ?_; intro _ _) | refine zX ?_ | (refine zC ?_; intro _ _ _ _) | (refine zS ?_; intro _ _) | (apply Ws <;> intro hg))
  refine WR.call (by first | exact gN | exact gS rfl) rfl rfl (CheckN_fs hH hS hO) ?_
  rintro _ H1 ⟨rfl, rfl⟩
  repeat' (first | refine zP ?_ | refine zA ?_ | (refine zM ?_; intro _ _) | refine zX ?_ | (refine zC ?_; intro _ _ _ _) | (refine zS ?_; intro _ _) | refine zO ?_ | (apply Ws <;> intro hg))
  refine WC.loopX [(0, v), (12, v), (13, _)] (fun z : IJ × Nat => [(14, .int .i64 (z.2 : Int)), (3, .int .i64 (z.1.j : Int)), (4, .int .i64 (z.1.k : Int))]) [] (fun z H' => H' = H1 ∧ z.2 ≤ o.length ∧ NoBefore o z.2 0 0) (fun z => o.length - z.2) (⟨0, 0⟩, 0) (by repeat' (first | exact .nil | refine .cons rfl ?_)) rfl ⟨rfl, Nat.zero_le _, fun a b c _ _ _ h => by omega⟩ ?_
  rintro ⟨⟨j0, k0⟩, i⟩ H2 ⟨rfl, hi, hno⟩
  simp only at hi hno
  dsimp only [List.cons_append, List.nil_append]
  repeat' (first | refine zP ?_ | refine zA ?_ | (refine zM ?_; intro _ _) | refine zX ?_ | (refine zC ?_; intro _ _ _ _) | (refine zS ?_; intro _ _) | (apply Ws <;> intro hg))
  refine WC.condP rfl (fun hlt => ?_) (fun hlt => ?_)
  · have hi' : i < o.length := by omega
    repeat' (first | refine zP ?_ | refine zA ?_ | (refine zM ?_; intro _ _) | refine zX ?_ | (refine zC ?_; intro _ _ _ _) | (refine zS ?_; intro _ _) | (apply Ws <;> intro hg))
    refine WC.loopX [(0, v), (12, v), (13, _), (14, _), (2, _)] (fun z : IJ => [(3, .int .i64 (z.j : Int)), (4, .int .i64 (z.k : Int))]) [] (fun z H' => H' = H2 ∧ i + 1 ≤ z.j ∧ z.j ≤ o.length ∧ NoBefore o i z.j 0) (fun z => o.length - z.j) ⟨i + 1, k0⟩ (by repeat' (first | exact .nil | refine .cons rfl ?_)) rfl ⟨rfl, Nat.le_refl _, hi', fun a b c h1 h2 h3 h => hno a b c h1 h2 h3 (by simp only at h; omega)⟩ ?_
    clear hno
    rintro ⟨j, k1⟩ H3 ⟨rfl, hj1, hj, hno⟩
    simp only at hj1 hj hno
    dsimp only [List.cons_append, List.nil_append]
    repeat' (first | refine zP ?_ | refine zA ?_ | (refine zM ?_; intro _ _) | refine zX ?_ | (refine zC ?_; intro _ _ _ _) | (refine zS ?_; intro _ _) | (apply Ws <;> intro hg))
    refine WC.condP rfl (fun hlt2 => ?_) (fun hlt2 => ?_)
    · have hj' : j < o.length := by omega
      repeat' (first | refine zP ?_ | refine zA ?_ | (refine zM ?_; intro _ _) | refine zX ?_ | (refine zC ?_; intro _ _ _ _) | (refine zS ?_; intro _ _) | (apply Ws <;> intro hg))
      refine WC.loopX [(0, v), (12, v), (13, _), (14, _), (2, _), (3, .int .i64 (j : Int))] (fun z : Nat => [(4, .int .i64 (z : Int))]) [] (fun z H' => H' = H3 ∧ j + 1 ≤ z ∧ z ≤ o.length ∧ NoBefore o i j z) (fun z => o.length - z) (j + 1) (by repeat' (first | exact .nil | refine .cons rfl ?_)) rfl ⟨rfl, Nat.le_refl _, hj', fun a b c h1 h2 h3 h => hno a b c h1 h2 h3 (by omega)⟩ ?_
      clear hno
      rintro k H4 ⟨rfl, hk1, hk, hno⟩
      dsimp only [List.cons_append, List.nil_append]
      repeat' (first | refine zP ?_ | refine zA ?_ | (refine zM ?_; intro _ _) | refine zX ?_ | (refine zC ?_; intro _ _ _ _) | (refine zS ?_; intro _ _) | (apply Ws <;> intro hg))
      refine WC.condP rfl (fun hlt3 => ?_) (fun hlt3 => ?_)
      · have hk' : k < o.length := by omega
        repeat' (first | refine zP ?_ | refine zA ?_ | (refine zM ?_; intro _ _) | refine zX ?_ | (refine zC ?_; intro _ _ _ _) | (refine zS ?_; intro _ _) | (apply Ws <;> intro hg))
        refine WR.call (by first | exact gN | exact gS rfl) rfl rfl (bar_fs hH hS hi' hj' hk') ?_
        rintro _ H5 ⟨rfl, rfl⟩
        cases hb : barB o i j k with
        | true =>
          repeat' (first | refine zP ?_ | refine zA ?_ | (refine zM ?_; intro _ _) | refine zX ?_ | (refine zC ?_; intro _ _ _ _) | (refine zS ?_; intro _ _) | (apply Ws <;> intro hg))
          exact Ends.ret4 rfl rfl rfl rfl ⟨rfl, i, j, k, 0, .inl ⟨rfl, by omega, by omega, hk', hb, hno⟩, rfl⟩
        | false =>
          repeat' (first | refine zP ?_ | refine zA ?_ | (refine zM ?_; intro _ _) | refine zX ?_ | (refine zC ?_; intro _ _ _ _) | (refine zS ?_; intro _ _) | (apply Ws <;> intro hg))
          refine Ends.loop (k + 1) (by omega) (by repeat' (first | exact .nil | refine .cons rfl ?_)) rfl ⟨rfl, by omega, hk', fun a b c h1 h2 h3 h => ?_⟩
          by_cases e : a = i ∧ b = j ∧ c = k
          · obtain ⟨rfl, rfl, rfl⟩ := e; exact hb
          · exact hno a b c h1 h2 h3 (by omega)
      · have hkn : k = o.length := by omega
        subst hkn
        repeat' (first | refine zP ?_ | refine zA ?_ | (refine zM ?_; intro _ _) | refine zX ?_ | (refine zC ?_; intro _ _ _ _) | (refine zS ?_; intro _ _) | (apply Ws <;> intro hg))
        exact Ends.loop ⟨j + 1, o.length⟩ (by simp only; omega) (by repeat' (first | exact .nil | refine .cons rfl ?_)) rfl ⟨rfl, by simp only; omega, by simp only; omega, fun a b c h1 h2 h3 h => hno a b c h1 h2 h3 (by simp only at h; omega)⟩
    · have hjn : j = o.length := by omega
      subst hjn
      repeat' (first | refine zP ?_ | refine zA ?_ | (refine zM ?_; intro _ _) | refine zX ?_ | (refine zC ?_; intro _ _ _ _) | (refine zS ?_; intro _ _) | (apply Ws <;> intro hg))
      exact Ends.loop (⟨o.length, k1⟩, i + 1) (by simp only; omega) (by repeat' (first | exact .nil | refine .cons rfl ?_)) rfl ⟨rfl, by simp only; omega, fun a b c h1 h2 h3 h => hno a b c h1 h2 h3 (by simp only at h; omega)⟩
  · have hin : i = o.length := by omega
    subst hin
    repeat' (first | refine zP ?_ | refine zA ?_ | (refine zM ?_; intro _ _) | refine zX ?_ | (refine zC ?_; intro _ _ _ _) | (refine zS ?_; intro _ _) | (apply Ws <;> intro hg))
    exact Ends.ret4 rfl rfl rfl rfl ⟨rfl, 0, 0, 0, 13, .inr ⟨rfl, rfl, rfl, rfl, fun a b c h1 h2 h3 => hno a b c h1 h2 h3 (by omega)⟩, rfl⟩
end
end Go.Proofs.Ytfnflkcjhefddaa.Lk

/- A pass is made. -/
namespace Go.Proofs.Ytfnflkcjhefddaa.Lk
open Go Go.Abs Go.Mth
set_option linter.unusedVariables false
set_option linter.unusedSimpArgs false
/-- One basin in memory. -/
def BP (b : Nat) (p : List Nat) (M : HL) (n : Nat) (H : Heap) : Prop := ∃ v M0, StkO 3 v (nodes p.reverse) M0 ∧ hasH ((b, .row 103 0 0 [v]) :: (M0 ++ M)) n H
theorem BP.tell {fn : Nat} {caps : List Value} {J : List (Nat × Nat) → HL → Prop} {M Mj : HL} {b n : Nat} {H : Heap} {p : List Nat} {tr : List (Nat × Nat)} (hT : TellK fn caps J M) (h : BP b p (Mj ++ M) n H) (hJ : J tr Mj) (hl : tr.length ≤ 100) (a x : Nat) (ha : a = 105 ∨ a = 111) :
    FS C fn ([] ++ [.int .u8 (a : Int), .int .i64 (x : Int)] ++ caps) H (fun e H' => ∃ Mj' n', J (tr ++ [(a, x)]) Mj' ∧ n ≤ n' ∧ BP b p (Mj' ++ M) n' H') := by
  obtain ⟨v, M0, hp, hH⟩ := h
  refine (hT tr Mj ((b, .row 103 0 0 [v]) :: M0) n H a x hJ hl ha hH).mono ?_
  rintro e H' ⟨Mj', n', h1, h2, h3⟩
  exact ⟨Mj', n', h1, h2, v, M0, hp, h3⟩
theorem BP.bring {M : HL} {b n : Nat} {H : Heap} {p : List Nat} (h : BP b p M n H) (x : Nat) (hl : p.length ≤ 1000) :
    FS C 98 [ptrO b 0, .int .i64 (x : Int)] H (fun e H' => ∃ n', n ≤ n' ∧ BP b (x :: p) M n' H') := by
  obtain ⟨v, M0, hp, hH⟩ := h
  refine (bring_fs hp hH rfl (by simp; omega)).mono ?_
  rintro e H' ⟨v', Mx', n', h1, h2, h3⟩
  refine ⟨n', h2, v', Mx', ?_, h3⟩
  rw [nodes_cons_rev]; exact h1
theorem BP.isEmpty {M : HL} {b n : Nat} {H : Heap} {p : List Nat} (h : BP b p M n H) :
    FS C 95 [ptrO b 0] H (fun e H' => H' = H ∧ e = .bool (decide (p = []))) := by
  obtain ⟨v, M0, hp, hH⟩ := h
  refine (isEmpty_fs hH (cell_row (.head _) rfl) (hp.sl _).cons).mono ?_
  rintro e H' ⟨h1, rfl⟩
  refine ⟨h1, ?_⟩
  congr 1
  rw [decide_eq_decide, nodes_len', List.length_reverse, List.length_eq_zero_iff]
theorem BP.last {M : HL} {b n x : Nat} {H : Heap} {p : List Nat} (h : BP b (x :: p) M n H) :
    FS C 96 [ptrO b 0] H (fun e H' => H' = H ∧ e = .int .i64 (x : Int)) := by
  obtain ⟨v, M0, hp, hH⟩ := h
  rw [nodes_cons_rev] at hp
  have hb := StkO.len hp
  rw [List.length_append, List.length_singleton] at hb
  exact last_fs hH (cell_row (.head _) rfl) (hp.sl _).cons (by omega)
theorem BP.take {M : HL} {b n x : Nat} {H : Heap} {p : List Nat} (h : BP b (x :: p) M n H) :
    FS C 97 [ptrO b 0] H (fun e H' => e = .int .i64 (x : Int) ∧ BP b p M n H') := by
  obtain ⟨v, M0, hp, hH⟩ := h
  rw [nodes_cons_rev] at hp
  refine (take_fs hp hH rfl).mono ?_
  rintro e H' ⟨h1, v', h2, h3⟩
  exact ⟨h1, v', M0, h2, h3⟩
theorem BP.sl {M : HL} {b n : Nat} {H : Heap} {p : List Nat} (h : BP b p M n H) : ∃ U, hasH U n H ∧ ∀ z ∈ M, z ∈ U := by
  obtain ⟨v, M0, hp, hH⟩ := h
  exact ⟨_, hH, fun z hz => List.mem_cons_of_mem _ (List.mem_append_right _ hz)⟩
structure PX where
  k : Nat
  st : List Nat
  tr : List (Nat × Nat)
  Mj : HL
  n : Nat
attribute [local irreducible] gOK WS WC WR WD Ends FS YS OpV seqK blockK loopK midK retK rdK asgK rangeEnd sat Cell
section
variable {M : HL} {n0 : Nat} {H : Heap} {v w : Value}
set_option maxHeartbeats 2000000 in
theorem pass_fs {fn : Nat} {caps : List Value} {J : List (Nat × Nat) → HL → Prop} (hT : TellK fn caps J M) {Mj : HL} (hJ : J [] Mj) {o : List Nat} {vo : Value} (ho : Sl M 1 vo (nodes o)) (hol : o.length ≤ 10) (hH : hasH (Mj ++ M) n0 H) :
    FS C 63 [vo, .func (.func fn) [].toArray caps.toArray] H (fun e H' => ∃ Mj' n', J (runTr [] o) Mj' ∧ n0 ≤ n' ∧ hasH (Mj' ++ M) n' H') := by
  have ho0 := ho.mono fun q hq => List.mem_append_right Mj hq
  refine FS.intro (pf := pf63) rfl rfl rfl ?_
  repeat' (first | refine zP ?_ | refine zA ?_ | (refine zM ?_; intro _ _) | refine zX ?_ | (refine zC ?_; intro _ _ _ _) | (refine zS ?_; intro _ _) | (apply Ws <;> intro hg))
  rename_i H1 hH1
  have ho1 := ho0.cons (p := (n0, Ch.row 103 0 0 [.slice none 0 0]))
  repeat' (first | refine zP ?_ | refine zA ?_ | (refine zM ?_; intro _ _) | refine zX ?_ | (refine zC ?_; intro _ _ _ _) | (refine zS ?_; intro _ _) | (apply Ws <;> intro hg))
  have hB1 : BP n0 [] (Mj ++ M) (n0 + 1) H1 := ⟨_, [], .nil, hH1⟩
  clear ho0 ho1 hH hH1
  refine WC.loopX [(1, .func (.func fn) [].toArray caps.toArray), (4, ptrO n0 0), (7, vo), (8, .int .i64 (o.length : Int))] (fun z : PX => [(9, .int .i64 (z.k : Int))]) []
    (fun z H' => z.k ≤ o.length ∧ z.st.length ≤ z.k ∧ z.tr ++ runTr z.st (o.drop z.k) = runTr [] o ∧ J z.tr z.Mj ∧ n0 ≤ z.n ∧ BP n0 z.st (z.Mj ++ M) z.n H') (fun z => o.length - z.k) ⟨0, [], [], Mj, n0 + 1⟩ (by repeat' (first | exact .nil | refine .cons rfl ?_)) rfl
    ⟨Nat.zero_le _, Nat.zero_le _, rfl, hJ, Nat.le_succ _, hB1⟩ ?_
  clear hB1 hJ
  rintro ⟨k, st, tr, Mj, n1⟩ H2 ⟨hk, hstl, htr, hJ, hn1, hB⟩
  simp only at hk hstl htr hJ hn1 hB
  have hlen := congrArg List.length htr
  rw [List.length_append, runTr_len, runTr_len, List.length_drop, List.length_nil] at hlen
  dsimp only [List.cons_append, List.nil_append]
  obtain ⟨U, hU, hMU⟩ := hB.sl
  have hoU := ho.mono fun q hq => hMU q (List.mem_append_right _ hq)
  repeat' (first | refine zP ?_ | refine zA ?_ | (refine zM ?_; intro _ _) | refine zX ?_ | (refine zC ?_; intro _ _ _ _) | (refine zS ?_; intro _ _) | (apply Ws <;> intro hg))
  refine WC.condP rfl (fun hlt => ?_) (fun hlt => ?_)
  · have hk' : k < o.length := by omega
    repeat' (first | refine zP ?_ | refine zA ?_ | (refine zM ?_; intro _ _) | refine zX ?_ | (refine zC ?_; intro _ _ _ _) | (refine zS ?_; intro _ _) | (apply Ws <;> intro hg))
    clear hU hoU hMU
    rw [List.drop_eq_getElem_cons hk', ← getD_eq (a := 0)] at htr
    have hx : o.getD k 0 = o.getD k 0 := rfl
    generalize o.getD k 0 = x at htr ⊢
    refine WC.loopX [(1, .func (.func fn) [].toArray caps.toArray), (4, ptrO n0 0), (7, vo), (8, .int .i64 (o.length : Int)), (9, .int .i64 (k : Int)), (6, .int .i64 (x : Int))] (fun z : PX => []) []
      (fun z H' => z.st.length ≤ k ∧ z.tr ++ runTr z.st (x :: o.drop (k + 1)) = runTr [] o ∧ J z.tr z.Mj ∧ n0 ≤ z.n ∧ BP n0 z.st (z.Mj ++ M) z.n H') (fun z => z.st.length) ⟨0, st, tr, Mj, n1⟩ (by repeat' (first | exact .nil | refine .cons rfl ?_)) rfl
      ⟨hstl, htr, hJ, hn1, hB⟩ ?_
    clear hB hJ htr hlen
    rintro ⟨_, st, tr, Mj, n1⟩ H3 ⟨hstl, htr, hJ, hn1, hB⟩
    simp only at hstl htr hJ hn1 hB
    have hlen := congrArg List.length htr
    rw [List.length_append, runTr_len, runTr_len, List.length_cons, List.length_drop, List.length_nil] at hlen
    dsimp only [List.cons_append, List.nil_append]
    repeat' (first | refine zP ?_ | refine zA ?_ | (refine zM ?_; intro _ _) | refine zX ?_ | (refine zC ?_; intro _ _ _ _) | (refine zS ?_; intro _ _) | (apply Ws <;> intro hg))
    refine WR.call (by first | exact gN | exact gS rfl) rfl rfl hB.isEmpty ?_
    rintro _ H4 ⟨rfl, rfl⟩
    cases st with
    | nil =>
      have hl0 : ([] : List Nat).length = 0 := rfl
      repeat' (first | refine zP ?_ | refine zA ?_ | (refine zM ?_; intro _ _) | refine zX ?_ | (refine zC ?_; intro _ _ _ _) | (refine zS ?_; intro _ _) | refine zO ?_ | (apply Ws <;> intro hg))
      refine WR.call (by first | exact gN | exact gS rfl) rfl rfl (hB.bring x (by omega)) ?_
      rintro _ H5 ⟨n5, hn5, hB5⟩
      repeat' (first | refine zP ?_ | refine zA ?_ | (refine zM ?_; intro _ _) | refine zX ?_ | (refine zC ?_; intro _ _ _ _) | (refine zS ?_; intro _ _) | (apply Ws <;> intro hg))
      refine WR.callV (by first | exact gN | exact gS rfl) rfl rfl rfl (hB5.tell hT hJ (by omega) 105 x (.inl rfl)) ?_
      rintro _ H6 ⟨Mj6, n6, hJ6, hn6, hB6⟩
      repeat' (first | refine zP ?_ | refine zA ?_ | (refine zM ?_; intro _ _) | refine zX ?_ | (refine zC ?_; intro _ _ _ _) | (refine zS ?_; intro _ _) | (apply Ws <;> intro hg))
      refine Ends.loop ⟨k + 1, x :: [], tr ++ [(105, x)], Mj6, n6⟩ (by simp only; omega) (by repeat' (first | exact .nil | refine .cons rfl ?_)) rfl ⟨hk', by simp only [List.length_cons] at hstl ⊢; omega, ?_, hJ6, by simp only; omega, hB6⟩
      simp only
      rw [← htr, run_no (fun y h => by simp at h)]; simp
    | cons y st =>
      have hl0 : (y :: st).length = st.length + 1 := rfl
      repeat' (first | refine zP ?_ | refine zA ?_ | (refine zM ?_; intro _ _) | refine zX ?_ | (refine zC ?_; intro _ _ _ _) | (refine zS ?_; intro _ _) | refine zO ?_ | (apply Ws <;> intro hg))
      refine WR.call (by first | exact gN | exact gS rfl) rfl rfl hB.last ?_
      rintro _ H7 ⟨rfl, rfl⟩
      by_cases hyx : y < x
      · repeat' (first | refine zP ?_ | refine zA ?_ | (refine zM ?_; intro _ _) | refine zX ?_ | (refine zC ?_; intro _ _ _ _) | (refine zS ?_; intro _ _) | refine zO ?_ | (apply Ws <;> intro hg))
        refine WR.call (by first | exact gN | exact gS rfl) rfl rfl hB.take ?_
        rintro _ H8 ⟨rfl, hB8⟩
        refine WR.callV (by first | exact gN | exact gS rfl) rfl rfl rfl (hB8.tell hT hJ (by omega) 111 y (.inr rfl)) ?_
        rintro _ H9 ⟨Mj9, n9, hJ9, hn9, hB9⟩
        repeat' (first | refine zP ?_ | refine zA ?_ | (refine zM ?_; intro _ _) | refine zX ?_ | (refine zC ?_; intro _ _ _ _) | (refine zS ?_; intro _ _) | (apply Ws <;> intro hg))
        refine Ends.loop ⟨0, st, tr ++ [(111, y)], Mj9, n9⟩ (by simp only [hl0]; omega) (by repeat' (first | exact .nil | refine .cons rfl ?_)) rfl ⟨by simp only; omega, ?_, hJ9, by simp only; omega, hB9⟩
        simp only
        rw [← htr, run_yes hyx]; simp
      · repeat' (first | refine zP ?_ | refine zA ?_ | (refine zM ?_; intro _ _) | refine zX ?_ | (refine zC ?_; intro _ _ _ _) | (refine zS ?_; intro _ _) | refine zO ?_ | (apply Ws <;> intro hg))
        refine WR.call (by first | exact gN | exact gS rfl) rfl rfl (hB.bring x (by omega)) ?_
        rintro _ H5 ⟨n5, hn5, hB5⟩
        repeat' (first | refine zP ?_ | refine zA ?_ | (refine zM ?_; intro _ _) | refine zX ?_ | (refine zC ?_; intro _ _ _ _) | (refine zS ?_; intro _ _) | (apply Ws <;> intro hg))
        refine WR.callV (by first | exact gN | exact gS rfl) rfl rfl rfl (hB5.tell hT hJ (by omega) 105 x (.inl rfl)) ?_
        rintro _ H6 ⟨Mj6, n6, hJ6, hn6, hB6⟩
        repeat' (first | refine zP ?_ | refine zA ?_ | (refine zM ?_; intro _ _) | refine zX ?_ | (refine zC ?_; intro _ _ _ _) | (refine zS ?_; intro _ _) | (apply Ws <;> intro hg))
        refine Ends.loop ⟨k + 1, x :: (y :: st), tr ++ [(105, x)], Mj6, n6⟩ (by simp only; omega) (by repeat' (first | exact .nil | refine .cons rfl ?_)) rfl ⟨hk', by simp only [List.length_cons] at hstl ⊢; omega, ?_, hJ6, by simp only; omega, hB6⟩
        simp only
        rw [← htr, run_no (fun z h => by simp at h; omega)]; simp
  · have hkn : k = o.length := by omega
    subst hkn
    rw [List.drop_length] at htr
    repeat' (first | refine zP ?_ | refine zA ?_ | (refine zM ?_; intro _ _) | refine zX ?_ | (refine zC ?_; intro _ _ _ _) | (refine zS ?_; intro _ _) | (apply Ws <;> intro hg))
    clear hU hoU hMU
    refine WC.loopX [(1, .func (.func fn) [].toArray caps.toArray), (4, ptrO n0 0)] (fun z : PX => []) []
      (fun z H' => z.tr ++ z.st.map (fun y => (111, y)) = runTr [] o ∧ J z.tr z.Mj ∧ n0 ≤ z.n ∧ BP n0 z.st (z.Mj ++ M) z.n H') (fun z => z.st.length) ⟨0, st, tr, Mj, n1⟩ (by repeat' (first | exact .nil | refine .cons rfl ?_)) rfl
      ⟨htr, hJ, hn1, hB⟩ ?_
    clear hB hJ htr hlen hstl hn1
    rintro ⟨_, st, tr, Mj, n1⟩ H3 ⟨htr, hJ, hn1, hB⟩
    simp only at htr hJ hn1 hB
    have hlen := congrArg List.length htr
    rw [List.length_append, runTr_len, List.length_map, List.length_nil] at hlen
    dsimp only [List.cons_append, List.nil_append]
    repeat' (first | refine zP ?_ | refine zA ?_ | (refine zM ?_; intro _ _) | refine zX ?_ | (refine zC ?_; intro _ _ _ _) | (refine zS ?_; intro _ _) | (apply Ws <;> intro hg))
    refine WR.call (by first | exact gN | exact gS rfl) rfl rfl hB.isEmpty ?_
    rintro _ H4 ⟨rfl, rfl⟩
    cases st with
    | nil =>
      repeat' (first | refine zP ?_ | refine zA ?_ | (refine zM ?_; intro _ _) | refine zX ?_ | (refine zC ?_; intro _ _ _ _) | (refine zS ?_; intro _ _) | refine zO ?_ | (apply Ws <;> intro hg))
      obtain ⟨v, M0, hp, hH⟩ := hB
      rw [List.map_nil, List.append_nil] at htr
      exact Ends.end0 ⟨Mj, n1, htr ▸ hJ, hn1, hH.sub ((List.sublist_append_right M0 _).cons _)⟩
    | cons y st =>
      have hl0 : (y :: st).length = st.length + 1 := rfl
      repeat' (first | refine zP ?_ | refine zA ?_ | (refine zM ?_; intro _ _) | refine zX ?_ | (refine zC ?_; intro _ _ _ _) | (refine zS ?_; intro _ _) | refine zO ?_ | (apply Ws <;> intro hg))
      refine WR.call (by first | exact gN | exact gS rfl) rfl rfl hB.take ?_
      rintro _ H8 ⟨rfl, hB8⟩
      refine WR.callV (by first | exact gN | exact gS rfl) rfl rfl rfl (hB8.tell hT hJ (by omega) 111 y (.inr rfl)) ?_
      rintro _ H9 ⟨Mj9, n9, hJ9, hn9, hB9⟩
      repeat' (first | refine zP ?_ | refine zA ?_ | (refine zM ?_; intro _ _) | refine zX ?_ | (refine zC ?_; intro _ _ _ _) | (refine zS ?_; intro _ _) | (apply Ws <;> intro hg))
      refine Ends.loop ⟨0, st, tr ++ [(111, y)], Mj9, n9⟩ (by simp only [hl0]; omega) (by repeat' (first | exact .nil | refine .cons rfl ?_)) rfl ⟨?_, hJ9, by simp only; omega, hB9⟩
      simp only
      rw [← htr]; simp
end
end Go.Proofs.Ytfnflkcjhefddaa.Lk

/- The order in which barges leave; how many passes. -/
namespace Go.Abs
set_option linter.unusedSectionVars false
open Go
section
variable [Globs] {C : CW} {nt : Nat} {L : Env} {D : List Nat} {H H' : Heap} {K : St → Prop} {M M' : HL} {n i d : Nat} {gd : Option (Tmp × Bool)} {lo : List Nat} {l : List POp} {rs : List Rd}
theorem WD.append {e sz : Nat} {s x : Operand} {v y : Value} {cs : List Value} {Mx M0 : HL} {k : Nat} {new : List Value} (hg : gOK L gd) (hd : Nat.blt d nt = true) (hs : ev L s = some v) (hy : ev L x = some y)
    (hO : Own e sz v cs Mx) (hH : hasH M n H) (hM : M'.Sublist M) (hp : M'.Perm (Mx ++ M0)) (hk : srcLen y = some k) (hx : srcCells H sz k y = some new) (hl : new.length = k * sz) (h1 : 1 ≤ k) (hone : new.all one = true) (hs1 : 1 ≤ sz) (hs2 : sz ≤ 1000)
    (hsm : cs.length + new.length ≤ 100000) (kk : ∀ v' Mx' n' H', OwnR e sz v' (cs ++ new) Mx' → hasH (Mx' ++ M0) n' H' → n ≤ n' → stands H' lo rs = true ∧ WD C nt l rs ((d, v') :: L) D H' K) :
    WD C nt (⟨i, some d, .append e sz s x, gd, lo⟩ :: l) rs L D H K := by
  obtain ⟨v', Mx', n', H', q1, q2, q3, q4⟩ := append_ownR (P := C.c.P) hO ((hH.sub hM).perm hp) hk hx hl h1 hone hs1 hs2 hsm
  obtain ⟨k1, k2⟩ := kk v' Mx' n' H' q2 q3 q4
  refine WD.op hg hd (H' := H') (v := v') (fun t ht => ?_) rfl k1 k2
  simp only [opA, ev_ok ht hs, ev_ok ht hy, q1]
/-- One element more, what was read before may be read after. -/
theorem WD.append1F {j d2 : Nat} {e : Nat} {z : List Value} {s x : Operand} {lo2 : List Nat} {v y : Value} {cs : List Value} {new : Value} (F Mx T : HL) (hd : Nat.blt d nt = true) (hd2 : Nat.blt d2 nt = true)
    (hx : ev L x = some y) (hs : ev ((d, .slice (some ⟨n, 0, some 0⟩) 1 (2 * 1 + 1)) :: L) s = some v) (hO : Own e 1 v cs Mx) (hH : hasH (F ++ (Mx ++ T)) n H)
    (hc : Instr.fill (fun j => some (j * 1, 1)) z.toArray [(0, y)] = some [new].toArray) (hone : one new = true) (hsm : cs.length + 1 ≤ 100000)
    (hst : ∀ H', hasH ((n, .row e 0 0 [new]) :: (F ++ (Mx ++ T))) (n + 1) H' → stands H' lo rs = true)
    (kk : ∀ v' Mx' n' H', OwnR e 1 v' (cs ++ [new]) Mx' → hasH (F ++ (Mx' ++ T)) n' H' → n ≤ n' → stands H' lo2 rs = true ∧ WD C nt l rs ((d2, v') :: (d, .slice (some ⟨n, 0, some 0⟩) 1 (2 * 1 + 1)) :: L) D H' K) :
    WD C nt (⟨i, some d, .bldS e 1 z 1 [(0, x)], none, lo⟩ :: ⟨j, some d2, .append e 1 s (.tmp d), none, lo2⟩ :: l) rs L D H K := by
  refine WD.bldS True.intro hd hH (vs := [(0, y)]) (by simp only [evp, hx]) hc (by simp [hone]) hst fun H1 hH1 => ?_
  have hx2 : srcCells H1 1 1 (.slice (some ⟨n, 0, some 0⟩) 1 (2 * 1 + 1)) = some [new] := by
    have := hH1.readN (b := n) (u := 0) (lo := 0) (o := 0) (k := 1 * 1) (ch := .row e 0 0 [new]) (cs := [new]) (by simp) (.row _ _ _ _) (Nat.le_refl _) (by simp)
    simpa [srcCells] using this
  have hy : ev ((d, .slice (some ⟨n, 0, some 0⟩) 1 (2 * 1 + 1)) :: L) (.tmp d) = some (.slice (some ⟨n, 0, some 0⟩) 1 (2 * 1 + 1)) := by simp [ev, Env.get]
  refine WD.append True.intro hd2 hs hy hO hH1 (M' := F ++ (Mx ++ T)) (List.sublist_cons_self _ _) (M0 := F ++ T) (List.perm_append_comm_assoc F Mx T) rfl hx2 (by simp) (Nat.le_refl _) (by simp [hone]) (Nat.le_refl _) (by omega) (by simpa using hsm) fun v' Mx' n' H' q1 q2 q3 => ?_
  exact kk v' Mx' n' H' q1 (q2.perm (List.perm_append_comm_assoc Mx' F T)) (by omega)

end
end Go.Abs
namespace Go.Proofs.Ytfnflkcjhefddaa.Lk
open Go Go.Abs Go.Mth
set_option linter.unusedVariables false
set_option linter.unusedSimpArgs false
def LeftJ (bl : Nat) (tr : List (Nat × Nat)) (Mj : HL) : Prop := ∃ lv Mo, Own 3 1 lv (nodes (outsT tr)) Mo ∧ Mj = (bl, Ch.row 22 0 0 [lv]) :: Mo
theorem outsT_in (tr : List (Nat × Nat)) (x : Nat) : outsT (tr ++ [(105, x)]) = outsT tr := by rw [outsT_app]; simp [outsT]
theorem outsT_out (tr : List (Nat × Nat)) (x : Nat) : outsT (tr ++ [(111, x)]) = outsT tr ++ [x] := by rw [outsT_app]; rfl
theorem outsT_le (tr : List (Nat × Nat)) : (outsT tr).length ≤ tr.length := by
  unfold outsT; rw [List.length_map]; exact List.length_filter_le _ _
attribute [local irreducible] gOK WS WC WR WD Ends FS YS OpV seqK blockK loopK midK retK rdK asgK rangeEnd sat Cell
section
variable {M : HL} {n0 : Nat} {H : Heap} {v w : Value}
set_option maxHeartbeats 1000000 in
theorem tell_left {bl bx : Nat} (hm : (bx, Ch.row 82 0 0 [ptrO bl 0]) ∈ M) : TellK 100 [ptrO bx 0] (LeftJ bl) M := by
  rintro tr Mj F n H a x ⟨lv, Mo, hO, rfl⟩ hl ha hH
  have hol := outsT_le tr
  refine FS.intro (pf := pf100) rfl rfl rfl ?_
  rcases ha with rfl | rfl
  · repeat' (first | refine zP ?_ | refine zA ?_ | (refine zM ?_; intro _ _) | refine zX ?_ | (refine zC ?_; intro _ _ _ _) | (refine zS ?_; intro _ _) | refine zO ?_ | (apply Ws <;> intro hg))
    exact Ends.end0 ⟨_, n, ⟨lv, Mo, by rw [outsT_in]; exact hO, rfl⟩, Nat.le_refl _, hH⟩
  · repeat' (first | refine zP ?_ | refine zA ?_ | (refine zM ?_; intro _ _) | refine zX ?_ | (refine zC ?_; intro _ _ _ _) | (refine zS ?_; intro _ _) | refine zO ?_ | (apply Ws <;> intro hg))
    have hlv := (hO.sl []).one_
    have hls := (hO.sl []).same
    have mX : (bx, Ch.row 82 0 0 [ptrO bl 0]) ∈ F ++ (((bl, Ch.row 22 0 0 [lv]) :: Mo) ++ M) := List.mem_append_right _ (List.mem_append_right _ hm)
    have mL : (bl, Ch.row 22 0 0 [lv]) ∈ F ++ (((bl, Ch.row 22 0 0 [lv]) :: Mo) ++ M) := List.mem_append_right _ (List.mem_append_left _ (.head _))
    have hsp : same1 (ptrO bl 0) (ptrO bl 0) = true := same_ptr _
    refine WC.regionD ?_
    refine WD.load1 (by first | exact gN | exact gS rfl) rfl rfl (hH.read mX (.row _ _ _ _) (Nat.zero_le _) rfl) ?_
    refine WD.load1 (by first | exact gN | exact gS rfl) rfl rfl (hH.read mX (.row _ _ _ _) (Nat.zero_le _) rfl) ?_
    repeat' (first | refine zD ?_ | (refine zE ?_; intro _ _ _ _))
    have hst : ∀ {Y : HL} {n' : Nat} {H' : Heap}, hasH Y n' H' → (bx, Ch.row 82 0 0 [ptrO bl 0]) ∈ Y → (bl, Ch.row 22 0 0 [lv]) ∈ Y → stands H' [0, 1, 3] [⟨3, ⟨bl, 0, some 0⟩, none, lv⟩, ⟨1, ⟨bx, 0, some 0⟩, none, ptrO bl 0⟩, ⟨0, ⟨bx, 0, some 0⟩, none, ptrO bl 0⟩] = true := fun h h1 h2 =>
      stands_cons (.inr (holds_at (h.read h2 (.row _ _ _ _) (Nat.zero_le _) rfl) hls)) (stands_cons (.inr (holds_at (h.read h1 (.row _ _ _ _) (Nat.zero_le _) rfl) hsp)) (stands_cons (.inr (holds_at (h.read h1 (.row _ _ _ _) (Nat.zero_le _) rfl) hsp)) stands_nil'))
    refine WD.append1F (new := .int .i64 (x : Int)) (F ++ [(bl, Ch.row 22 0 0 [lv])]) Mo M rfl rfl rfl rfl hO (by simpa using hH) rfl rfl (by simp; omega) (fun H' h' => hst h' (by simp [hm]) (by simp)) fun v' Mx' n' H2 hO2 hH2 hn2 => ⟨?_, ?_⟩
    · exact stands_cons (.inl rfl) (stands_cons (.inl rfl) (stands_cons (.inr (holds_at (hH2.read (b := bx) (ch := .row 82 0 0 [ptrO bl 0]) (by simp [hm]) (.row _ _ _ _) (Nat.zero_le _) rfl) hsp)) stands_nil'))
    refine WD.toWR rfl ?_
    repeat' (first | refine zP ?_ | refine zA ?_ | (refine zM ?_; intro _ _) | refine zX ?_ | (refine zC ?_; intro _ _ _ _) | (refine zS ?_; intro _ _) | (apply Ws <;> intro hg))
    have hH3 : hasH ((bl, .row 22 0 0 [lv]) :: (F ++ (Mx' ++ M))) n' H2 := hH2.perm (by classical exact List.perm_iff_count.2 (fun a => by simp only [defds, List.map_cons, List.map_nil, List.count_append, List.count_cons, List.count_nil, List.cons_append, List.nil_append, List.append_nil]; omega))
    refine WR.storeBox (by first | exact gN | exact gS rfl) hH3 rfl rfl (hO2.own.sl []).one_ .here fun H4 hH4 => ?_
    repeat' (first | refine zP ?_ | refine zA ?_ | (refine zM ?_; intro _ _) | refine zX ?_ | (refine zC ?_; intro _ _ _ _) | (refine zS ?_; intro _ _) | (apply Ws <;> intro hg))
    refine Ends.end0 ⟨(bl, Ch.row 22 0 0 [v']) :: Mx', n', ⟨v', Mx', ?_, rfl⟩, hn2, hH4.perm (by classical exact List.perm_iff_count.2 (fun a => by simp only [defds, List.map_cons, List.map_nil, List.count_append, List.count_cons, List.count_nil, List.cons_append, List.nil_append, List.append_nil]; omega))⟩
    rw [outsT_out, nodes_snoc]; exact hO2.own
theorem leavers_fs (hH : hasH M n0 H) (b : Nat) :
    FS C 66 [ptrO b 0] H (fun e H' => e = .func (.func 100) [].toArray [ptrO n0 0].toArray ∧ hasH ((n0, .row 82 0 0 [ptrO b 0]) :: M) (n0 + 1) H') := by
  refine FS.intro (pf := pf66) rfl rfl rfl ?_
  repeat' (first | refine zP ?_ | refine zA ?_ | (refine zM ?_; intro _ _) | refine zX ?_ | (refine zC ?_; intro _ _ _ _) | (refine zS ?_; intro _ _) | (apply Ws <;> intro hg))
  rename_i H1 hH1
  exact Ends.ret1 rfl ⟨rfl, hH1⟩
theorem passed_fs (hH : hasH M n0 H) {o : List Nat} (ho : Sl M 1 v (nodes o)) (hol : o.length ≤ 10) :
    FS C 61 [v] H (fun e H' => ∃ Mx n', Own 3 1 e (nodes (passF o)) Mx ∧ n0 ≤ n' ∧ hasH (Mx ++ M) n' H') := by
  have hv := ho.one_
  refine FS.intro (pf := pf61) rfl rfl rfl ?_
  repeat' (first | refine zP ?_ | refine zA ?_ | (refine zM ?_; intro _ _) | refine zX ?_ | (refine zC ?_; intro _ _ _ _) | (refine zS ?_; intro _ _) | (apply Ws <;> intro hg))
  rename_i H1 hH1
  refine WR.call (by first | exact gN | exact gS rfl) rfl rfl (leavers_fs hH1 n0) ?_
  rintro _ H2 ⟨rfl, hH2⟩
  clear hH1
  have hH3 : hasH ([(n0, Ch.row 22 0 0 [.slice none 0 0])] ++ ((n0 + 1, Ch.row 82 0 0 [ptrO n0 0]) :: M)) (n0 + 1 + 1) H2 := hH2.perm (.swap _ _ _)
  clear hH2
  refine WR.call (by first | exact gN | exact gS rfl) rfl rfl (pass_fs (tell_left (bl := n0) (bx := n0 + 1) (.head _)) ⟨.slice none 0 0, [], .nil, rfl⟩ ho.cons hol hH3) ?_
  rintro _ H4 ⟨_, n4, ⟨lv, Mo, hO, rfl⟩, hn4, hH4⟩
  rw [outs_run] at hO
  replace hH4 : hasH ((n0, Ch.row 22 0 0 [lv]) :: (Mo ++ ((n0 + 1, Ch.row 82 0 0 [ptrO n0 0]) :: M))) n4 H4 := hH4
  repeat' (first | refine zP ?_ | refine zA ?_ | (refine zM ?_; intro _ _) | refine zX ?_ | (refine zC ?_; intro _ _ _ _) | (refine zS ?_; intro _ _) | (apply Ws <;> intro hg))
  exact Ends.ret1 rfl ⟨Mo, n4, hO, by omega, (hH4.tail).sub (List.Sublist.append_left (List.sublist_cons_self _ _) _)⟩
end
end Go.Proofs.Ytfnflkcjhefddaa.Lk

/- The law's own pass; lists compared. -/
namespace Go.Abs
set_option linter.unusedSectionVars false
open Go
section
variable [Globs] {C : CW} {nt : Nat} {L : Env} {D : List Nat} {H H' : Heap} {K : St → Prop} {M M' : HL} {n i d : Nat} {gd : Option (Tmp × Bool)} {lo : List Nat} {l : List POp} {rs : List Rd}
/-- Numbers in a row of one's own, or none. -/
def OwnN (e : Nat) (v : Value) (xs : List Nat) (Mx : HL) : Prop := (xs = [] ∧ v = .slice none 0 0 ∧ Mx = []) ∨ (xs ≠ [] ∧ OwnR e 1 v (nodes xs) Mx)
theorem OwnN.own {e : Nat} {v : Value} {xs : List Nat} {Mx : HL} (h : OwnN e v xs Mx) : Own e 1 v (nodes xs) Mx := by
  rcases h with ⟨rfl, rfl, rfl⟩ | ⟨_, h⟩
  · exact .nil
  · exact h.own
theorem OwnN.sl {e : Nat} {v : Value} {xs : List Nat} {Mx T : HL} (h : OwnN e v xs Mx) (k : ∀ q ∈ Mx, q ∈ T) : Sl T 1 v (nodes xs) := (h.own.sl []).mono fun q hq => k q (by simpa using hq)
end
end Go.Abs
namespace Go.Proofs.Ytfnflkcjhefddaa.Lk
open Go Go.Abs Go.Mth
set_option linter.unusedVariables false
set_option linter.unusedSimpArgs false
attribute [local irreducible] gOK WS WC WR WD Ends FS YS OpV seqK blockK loopK midK retK rdK asgK rangeEnd sat Cell
section
variable {M : HL} {n0 : Nat} {H : Heap} {v w : Value}
end
end Go.Proofs.Ytfnflkcjhefddaa.Lk
