/- Texts of the law, joined. -/
import Derived.Test.YtblopbimchkneaaJ3
import Derived.Test.YtblopbimchkneaaJ2
namespace Go.Proofs.Ytblopbimchkneaa.Md
open Go Go.Abs Go.Mth
set_option linter.unusedVariables false
set_option linter.unusedSimpArgs false
attribute [local irreducible] gOK WS WC WR WD Ends FS YS OpV seqK blockK loopK midK retK rdK asgK rangeEnd sat Cell
section
variable {M : HL} {n0 : Nat} {H : Heap} {v w : Value} {ns : List Nat}
theorem rOrigin_fs (hH : hasH M n0 H) (hS : Sl M 1 v (nodes ns)) (hl : ns.length ≤ 8) {N : Nat} (hN1 : 1 ≤ N) (hN : N ≤ 6) (hb : ∀ x ∈ ns, x < 2 ^ N) :
    FS C 24 [.int .i64 (N : Int), v] H (fun e H' => ∃ o u Mx n', e = .tuple #[u, .int .i64 (if honB N ns = true then 0 else 12)] ∧ OrgR N ns o ∧ Own 3 1 u (ints o) Mx ∧ n0 ≤ n' ∧ hasH (Mx ++ M) n' H') := by
  have hSI : Unit → Sl M 1 v (ints (ns.map fun (x : Nat) => (x : Int))) := fun _ => by rw [← nodesI]; exact hS
  have hb62 := lt_62 hN hb
  refine FS.intro (pf := pf24) rfl rfl rfl ?_
  repeat' (first | refine zP ?_ | refine zA ?_ | (refine zM ?_; intro _ _) | refine zX ?_ | (refine zC ?_; intro _ _ _ _) | (refine zS ?_; intro _ _) | (apply Ws <;> intro hg))
  refine WR.call (by first | exact gN | exact gS rfl) rfl rfl (rCheck_fs hH (hSI ()) (by simp; omega) _) ?_
  rintro _ H1 ⟨rfl, rfl⟩
  rw [casts_intro hN1 hN hl hb]
  repeat' (first | refine zP ?_ | refine zA ?_ | (refine zM ?_; intro _ _) | refine zX ?_ | (refine zC ?_; intro _ _ _ _) | (refine zS ?_; intro _ _) | refine zO ?_ | (apply Ws <;> intro hg))
  refine WR.call (by first | exact gN | exact gS rfl) rfl rfl (rhonest_fs hH hS (by omega) hb62 (by omega)) ?_
  rintro _ H2 ⟨rfl, rfl⟩
  cases hh : honB N ns with
  | false =>
    repeat' (first | refine zP ?_ | refine zA ?_ | (refine zM ?_; intro _ _) | refine zX ?_ | (refine zC ?_; intro _ _ _ _) | (refine zS ?_; intro _ _) | (apply Ws <;> intro hg))
    exact Ends.ret2 rfl rfl ⟨[], .slice none 0 0, [], n0, by rw [if_neg (by decide)], by rw [OrgR, if_neg (by rw [hh]; decide)], .nil, Nat.le_refl _, hH⟩
  | true =>
    repeat' (first | refine zP ?_ | refine zA ?_ | (refine zM ?_; intro _ _) | refine zX ?_ | (refine zC ?_; intro _ _ _ _) | (refine zS ?_; intro _ _) | refine zO ?_ | (apply Ws <;> intro hg))
    refine WR.call (by first | exact gN | exact gS rfl) rfl rfl (rorigin_fs hH hS hl hb62 hN) ?_
    rintro u H4 ⟨o, Mx, n4, ho, hO, hn4, hH4⟩
    repeat' (first | refine zP ?_ | refine zA ?_ | (refine zM ?_; intro _ _) | refine zX ?_ | (refine zC ?_; intro _ _ _ _) | (refine zS ?_; intro _ _) | (apply Ws <;> intro hg))
    exact Ends.ret2 rfl rfl ⟨o, u, Mx, n4, by rw [if_pos rfl], by rw [OrgR, if_pos hh]; exact ho, hO, hn4, hH4⟩
def openE (N : Nat) (ns : List Nat) (i j : Int) : Int := if ¬ ((0 ≤ i ∧ i < ns.length) ∧ (0 ≤ j ∧ j < ns.length)) then 2 else if honB N ns = false then 12 else 0
theorem opened_fs (hH : hasH M n0 H) (hS : Sl M 1 v (nodes ns)) (hl : ns.length ≤ 8) {N : Nat} (hN1 : 1 ≤ N) (hN : N ≤ 6) (hb : ∀ x ∈ ns, x < 2 ^ N) (i j : Int) :
    FS C 67 [.int .i64 (N : Int), v, .int .i64 i, .int .i64 j] H (fun e H' => e = .int .i64 (openE N ns i j) ∧ H' = H) := by
  have hSI : Unit → Sl M 1 v (ints (ns.map fun (x : Nat) => (x : Int))) := fun _ => by rw [← nodesI]; exact hS
  have hb62 := lt_62 hN hb
  refine FS.intro (pf := pf67) rfl rfl rfl ?_
  repeat' (first | refine zP ?_ | refine zA ?_ | (refine zM ?_; intro _ _) | refine zX ?_ | (refine zC ?_; intro _ _ _ _) | (refine zS ?_; intro _ _) | (apply Ws <;> intro hg))
  refine WR.call (by first | exact gN | exact gS rfl) rfl rfl (rCheck_fs hH (hSI ()) (by simp; omega) _) ?_
  rintro _ H1 ⟨rfl, rfl⟩
  rw [casts_intro hN1 hN hl hb]
  repeat' (first | refine zP ?_ | refine zA ?_ | (refine zM ?_; intro _ _) | refine zX ?_ | (refine zC ?_; intro _ _ _ _) | (refine zS ?_; intro _ _) | refine zO ?_ | (apply Ws <;> intro hg))
  refine WR.call (by first | exact gN | exact gS rfl) rfl rfl (in_fs _ _ _ _) ?_
  rintro _ H2 ⟨rfl, rfl⟩
  by_cases c1 : 0 ≤ i ∧ i ≤ (ns.length : Int) - 1
  all_goals first | rw [decide_eq_true c1] | rw [decide_eq_false c1]
  rotate_left
  · repeat' (first | refine zP ?_ | refine zA ?_ | (refine zM ?_; intro _ _) | refine zX ?_ | (refine zC ?_; intro _ _ _ _) | (refine zS ?_; intro _ _) | refine zO ?_ | (apply Ws <;> intro hg))
    exact Ends.ret1 rfl ⟨by rw [openE, if_pos (fun h => c1 (by omega))], rfl⟩
  repeat' (first | refine zP ?_ | refine zA ?_ | (refine zM ?_; intro _ _) | refine zX ?_ | (refine zC ?_; intro _ _ _ _) | (refine zS ?_; intro _ _) | refine zO ?_ | (apply Ws <;> intro hg))
  refine WR.call (by first | exact gN | exact gS rfl) rfl rfl (in_fs _ _ _ _) ?_
  rintro _ H3 ⟨rfl, rfl⟩
  by_cases c2 : 0 ≤ j ∧ j ≤ (ns.length : Int) - 1
  all_goals first | rw [decide_eq_true c2] | rw [decide_eq_false c2]
  rotate_left
  · repeat' (first | refine zP ?_ | refine zA ?_ | (refine zM ?_; intro _ _) | refine zX ?_ | (refine zC ?_; intro _ _ _ _) | (refine zS ?_; intro _ _) | refine zO ?_ | (apply Ws <;> intro hg))
    exact Ends.ret1 rfl ⟨by rw [openE, if_pos (fun h => c2 (by omega))], rfl⟩
  repeat' (first | refine zP ?_ | refine zA ?_ | (refine zM ?_; intro _ _) | refine zX ?_ | (refine zC ?_; intro _ _ _ _) | (refine zS ?_; intro _ _) | refine zO ?_ | (apply Ws <;> intro hg))
  refine WR.call (by first | exact gN | exact gS rfl) rfl rfl (rhonest_fs hH hS (by omega) hb62 (by omega)) ?_
  rintro _ H4 ⟨rfl, rfl⟩
  cases hh : honB N ns with
  | false =>
    repeat' (first | refine zP ?_ | refine zA ?_ | (refine zM ?_; intro _ _) | refine zX ?_ | (refine zC ?_; intro _ _ _ _) | (refine zS ?_; intro _ _) | refine zO ?_ | (apply Ws <;> intro hg))
    exact Ends.ret1 rfl ⟨by rw [openE, if_neg (by omega), if_pos hh], rfl⟩
  | true =>
    repeat' (first | refine zP ?_ | refine zA ?_ | (refine zM ?_; intro _ _) | refine zX ?_ | (refine zC ?_; intro _ _ _ _) | (refine zS ?_; intro _ _) | refine zO ?_ | (apply Ws <;> intro hg))
    exact Ends.ret1 rfl ⟨by rw [openE, if_neg (by omega), if_neg (by rw [hh]; decide)], rfl⟩
theorem rPath_fs (hH : hasH M n0 H) (hS : Sl M 1 v (nodes ns)) (hl : ns.length ≤ 8) {N : Nat} (hN1 : 1 ≤ N) (hN : N ≤ 6) (hb : ∀ x ∈ ns, x < 2 ^ N) (i : Int) :
    FS C 26 [.int .i64 (N : Int), v, .int .i64 i] H (fun e H' => ∃ l u f Mx n', e = .tuple #[u, .int .i64 f] ∧ PthR N ns i l f ∧ l.length ≤ N ∧ Own 3 1 u (nodes l) Mx ∧ n0 ≤ n' ∧ hasH (Mx ++ M) n' H') := by
  refine FS.intro (pf := pf26) rfl rfl rfl ?_
  repeat' (first | refine zP ?_ | refine zA ?_ | (refine zM ?_; intro _ _) | refine zX ?_ | (refine zC ?_; intro _ _ _ _) | (refine zS ?_; intro _ _) | (apply Ws <;> intro hg))
  refine WR.call (by first | exact gN | exact gS rfl) rfl rfl (opened_fs hH hS hl hN1 hN hb i i) ?_
  rintro _ H1 ⟨rfl, rfl⟩
  by_cases hi : 0 ≤ i ∧ i < (ns.length : Int)
  · cases hh : honB N ns with
    | false =>
      have he : openE N ns i i = 12 := by rw [openE, if_neg (not_not_intro ⟨hi, hi⟩), if_pos hh]
      rw [he]
      repeat' (first | refine zP ?_ | refine zA ?_ | (refine zM ?_; intro _ _) | refine zX ?_ | (refine zC ?_; intro _ _ _ _) | (refine zS ?_; intro _ _) | (apply Ws <;> intro hg))
      exact Ends.ret2 rfl rfl ⟨[], _, _, [], n0, rfl, by rw [PthR, if_neg (not_not_intro hi), if_pos hh]; exact ⟨rfl, rfl⟩, Nat.zero_le _, .nil, Nat.le_refl _, hH⟩
    | true =>
      have he : openE N ns i i = 0 := by rw [openE, if_neg (not_not_intro ⟨hi, hi⟩), if_neg (by rw [hh]; decide)]
      rw [he]
      obtain ⟨k, rfl⟩ : ∃ k : Nat, i = (k : Int) := ⟨i.toNat, by omega⟩
      repeat' (first | refine zP ?_ | refine zA ?_ | (refine zM ?_; intro _ _) | refine zX ?_ | (refine zC ?_; intro _ _ _ _) | (refine zS ?_; intro _ _) | (apply Ws <;> intro hg))
      refine WR.call (by first | exact gN | exact gS rfl) rfl rfl (rpath_fs hH hS hl (lt_62 hN hb) hN (i := k) (by omega)) ?_
      rintro u H2 ⟨o, l, Mx, n2, ho, hp, hpl, hO, hn2, hH2⟩
      repeat' (first | refine zP ?_ | refine zA ?_ | (refine zM ?_; intro _ _) | refine zX ?_ | (refine zC ?_; intro _ _ _ _) | (refine zS ?_; intro _ _) | (apply Ws <;> intro hg))
      exact Ends.ret2 rfl rfl ⟨l, u, 0, Mx, n2, rfl, by rw [PthR, if_neg (by omega), if_neg (by rw [hh]; decide), Int.toNat_natCast]; exact ⟨rfl, o, ho, hp⟩, hpl, hO, hn2, hH2⟩
  · have he : openE N ns i i = 2 := by rw [openE, if_pos (fun h => hi h.1)]
    rw [he]
    repeat' (first | refine zP ?_ | refine zA ?_ | (refine zM ?_; intro _ _) | refine zX ?_ | (refine zC ?_; intro _ _ _ _) | (refine zS ?_; intro _ _) | (apply Ws <;> intro hg))
    exact Ends.ret2 rfl rfl ⟨[], _, _, [], n0, rfl, by rw [PthR, if_pos hi]; exact ⟨rfl, rfl⟩, Nat.zero_le _, .nil, Nat.le_refl _, hH⟩
theorem path_lt {N c : Nat} {o : List Int} : ∀ {l : List Nat} {b : Int}, PathF N o c b l → ∀ x ∈ l, x < N
  | [], _, _, x, hx => by cases hx
  | y :: l, _, .cons h k, x, hx => by
    rcases List.mem_cons.1 hx with rfl | hx
    · exact h.1
    · exact path_lt k x hx
theorem filter_take {l : List Nat} {p : Nat → Bool} {k : Nat} (h : k < l.length) : (l.take (k + 1)).filter p = (l.take k).filter p ++ if p (l.getD k 0) = true then [l.getD k 0] else [] := by
  rw [List.take_succ_eq_append_getElem h, List.filter_append, getD_eq h]
  cases hp : p l[k] <;> simp [hp]
theorem rLast_fs (hH : hasH M n0 H) (hS : Sl M 1 v (nodes ns)) (hl : ns.length ≤ 8) {N : Nat} (hN1 : 1 ≤ N) (hN : N ≤ 6) (hb : ∀ x ∈ ns, x < 2 ^ N) (i j : Int) :
    FS C 28 [.int .i64 (N : Int), v, .int .i64 i, .int .i64 j] H (fun e H' => ∃ q f, e = .tuple #[.int .i64 q, .int .i64 f] ∧ LstR N ns i j q f ∧ ∃ n', n0 ≤ n' ∧ hasH M n' H') := by
  refine FS.intro (pf := pf28) rfl rfl rfl ?_
  repeat' (first | refine zP ?_ | refine zA ?_ | (refine zM ?_; intro _ _) | refine zX ?_ | (refine zC ?_; intro _ _ _ _) | (refine zS ?_; intro _ _) | (apply Ws <;> intro hg))
  refine WR.call (by first | exact gN | exact gS rfl) rfl rfl (opened_fs hH hS hl hN1 hN hb i j) ?_
  rintro _ H1 ⟨rfl, rfl⟩
  by_cases hi : (0 ≤ i ∧ i < (ns.length : Int)) ∧ (0 ≤ j ∧ j < (ns.length : Int))
  · cases hh : honB N ns with
    | false =>
      have he : openE N ns i j = 12 := by rw [openE, if_neg (not_not_intro hi), if_pos hh]
      rw [he]
      repeat' (first | refine zP ?_ | refine zA ?_ | (refine zM ?_; intro _ _) | refine zX ?_ | (refine zC ?_; intro _ _ _ _) | (refine zS ?_; intro _ _) | (apply Ws <;> intro hg))
      exact Ends.ret2 rfl rfl ⟨_, _, rfl, by rw [LstR, if_neg (not_not_intro hi), if_pos hh]; exact ⟨rfl, rfl⟩, n0, Nat.le_refl _, hH⟩
    | true =>
      have he : openE N ns i j = 0 := by rw [openE, if_neg (not_not_intro hi), if_neg (by rw [hh]; decide)]
      rw [he]
      obtain ⟨k, rfl⟩ : ∃ k : Nat, i = (k : Int) := ⟨i.toNat, by omega⟩
      obtain ⟨m, rfl⟩ : ∃ k : Nat, j = (k : Int) := ⟨j.toNat, by omega⟩
      have hk : k < ns.length := by omega
      have hm : m < ns.length := by omega
      have hcm := lt_62 hN hb _ (getD_mem (a := 0) hm)
      repeat' (first | refine zP ?_ | refine zA ?_ | (refine zM ?_; intro _ _) | refine zX ?_ | (refine zC ?_; intro _ _ _ _) | (refine zS ?_; intro _ _) | (apply Ws <;> intro hg))
      refine WR.call (by first | exact gN | exact gS rfl) rfl rfl (rpath_fs hH hS hl (lt_62 hN hb) hN (i := k) hk) ?_
      rintro u H2 ⟨o, l, Mx, n2, ho, hp, hpl, hO, hn2, hH2⟩
      have hSu := hO.sl M
      have hS2 := hS.mono (M' := Mx ++ M) fun p hp => List.mem_append_right _ hp
      have hcom := path_common hl hh ho (getD_mem (a := 0) hk) (getD_mem (a := 0) hm) hp
      have hlt := path_lt hp
      clear hH
      repeat' (first | refine zP ?_ | refine zA ?_ | (refine zM ?_; intro _ _) | refine zX ?_ | (refine zC ?_; intro _ _ _ _) | (refine zS ?_; intro _ _) | (apply Ws <;> intro hg))
      refine WC.loopX [(0, _), (1, _), (2, _), (3, _), (12, _)] (fun s : Nat => [(11, .int .i64 (lastI ((l.take s).filter fun x => (ns.getD m 0).testBit x))), (13, .int .i64 (s : Int))]) [] (fun s H' => H' = H2 ∧ s ≤ l.length) (fun s => l.length - s) 0 (by repeat' (first | exact .nil | refine .cons rfl ?_)) rfl ⟨rfl, Nat.zero_le _⟩ ?_
      rintro s _ ⟨rfl, hs⟩
      dsimp only [List.cons_append, List.nil_append]
      repeat' (first | refine zP ?_ | refine zA ?_ | (refine zM ?_; intro _ _) | refine zX ?_ | (refine zC ?_; intro _ _ _ _) | (refine zS ?_; intro _ _) | (apply Ws <;> intro hg))
      refine WC.condP rfl (fun hlt1 => ?_) (fun hlt1 => ?_)
      · have hs' : s < l.length := by omega
        have hxN := hlt _ (getD_mem (a := 0) hs')
        repeat' (first | refine zP ?_ | refine zA ?_ | (refine zM ?_; intro _ _) | refine zX ?_ | (refine zC ?_; intro _ _ _ _) | (refine zS ?_; intro _ _) | (apply Ws <;> intro hg))
        refine WR.call (by first | exact gN | exact gS rfl) rfl rfl (rhas_fs hcm (by omega) _) ?_
        rintro _ H3 ⟨rfl, rfl⟩
        cases hbit : (ns.getD m 0).testBit (l.getD s 0) with
        | true =>
          repeat' (first | refine zP ?_ | refine zA ?_ | (refine zM ?_; intro _ _) | refine zX ?_ | (refine zC ?_; intro _ _ _ _) | (refine zS ?_; intro _ _) | (apply Ws <;> intro hg))
          refine Ends.loop (s + 1) (by omega) (.cons ?_ (by repeat' (first | exact .nil | refine .cons rfl ?_))) rfl ⟨rfl, hs'⟩
          rw [filter_take hs', if_pos hbit, lastI_snoc]; rfl
        | false =>
          repeat' (first | refine zP ?_ | refine zA ?_ | (refine zM ?_; intro _ _) | refine zX ?_ | (refine zC ?_; intro _ _ _ _) | (refine zS ?_; intro _ _) | (apply Ws <;> intro hg))
          refine Ends.loop (s + 1) (by omega) (.cons ?_ (by repeat' (first | exact .nil | refine .cons rfl ?_))) rfl ⟨rfl, hs'⟩
          rw [filter_take hs', if_neg (by rw [hbit]; decide), List.append_nil]; rfl
      · have hsl : s = l.length := by omega
        subst hsl
        rw [List.take_length]
        repeat' (first | refine zP ?_ | refine zA ?_ | (refine zM ?_; intro _ _) | refine zX ?_ | (refine zC ?_; intro _ _ _ _) | (refine zS ?_; intro _ _) | (apply Ws <;> intro hg))
        refine Ends.ret2 rfl rfl ⟨_, _, rfl, ?_, n2, hn2, hH2.sub (List.sublist_append_right Mx M)⟩
        rw [LstR, if_neg (by omega), if_neg (by rw [hh]; decide), Int.toNat_natCast, Int.toNat_natCast]
        exact ⟨rfl, o, _, ho, hcom, rfl⟩
  · have he : openE N ns i j = 2 := by rw [openE, if_pos hi]
    rw [he]
    repeat' (first | refine zP ?_ | refine zA ?_ | (refine zM ?_; intro _ _) | refine zX ?_ | (refine zC ?_; intro _ _ _ _) | (refine zS ?_; intro _ _) | (apply Ws <;> intro hg))
    exact Ends.ret2 rfl rfl ⟨_, _, rfl, by rw [LstR, if_pos hi]; exact ⟨rfl, rfl⟩, n0, Nat.le_refl _, hH⟩
theorem sameI_fs (hH : hasH M n0 H) {xs ys : List Int} (hS : Sl M 1 v (ints xs)) (hU : Sl M 1 w (ints ys)) (hx : xs.length ≤ 1000) (hy : ys.length ≤ 1000) :
    FS C 29 [v, w] H (fun e H' => e = .bool (decide (xs = ys)) ∧ H' = H) := by
  refine FS.intro (pf := pf29) rfl rfl rfl ?_
  repeat' (first | refine zP ?_ | refine zA ?_ | (refine zM ?_; intro _ _) | refine zX ?_ | (refine zC ?_; intro _ _ _ _) | (refine zS ?_; intro _ _) | (apply Ws <;> intro hg))
  refine WC.condP rfl (fun hne => ?_) (fun hne => ?_)
  · repeat' (first | refine zP ?_ | refine zA ?_ | (refine zM ?_; intro _ _) | refine zX ?_ | (refine zC ?_; intro _ _ _ _) | (refine zS ?_; intro _ _) | (apply Ws <;> intro hg))
    exact Ends.ret1 rfl ⟨by rw [decide_eq_false (fun h => hne (by rw [h]))], rfl⟩
  have hle : xs.length = ys.length := by omega
  repeat' (first | refine zP ?_ | refine zA ?_ | (refine zM ?_; intro _ _) | refine zX ?_ | (refine zC ?_; intro _ _ _ _) | (refine zS ?_; intro _ _) | (apply Ws <;> intro hg))
  refine WC.loopX [(0, _), (1, _)] (fun k : Nat => [(5, .int .i64 (k : Int))]) [] (fun k H' => H' = H ∧ k ≤ xs.length ∧ ∀ j, j < k → xs.getD j 0 = ys.getD j 0) (fun k => xs.length - k) 0 (by repeat' (first | exact .nil | refine .cons rfl ?_)) rfl ⟨rfl, Nat.zero_le _, fun j h => absurd h (Nat.not_lt_zero _)⟩ ?_
  rintro k H' ⟨rfl, hk, hno⟩
  dsimp only [List.cons_append, List.nil_append]
  repeat' (first | refine zP ?_ | refine zA ?_ | (refine zM ?_; intro _ _) | refine zX ?_ | (refine zC ?_; intro _ _ _ _) | (refine zS ?_; intro _ _) | (apply Ws <;> intro hg))
  refine WC.condP rfl (fun hlt => ?_) (fun hlt => ?_)
  · have hk' : k < xs.length := by omega
    have hk2 : k < ys.length := by omega
    repeat' (first | refine zP ?_ | refine zA ?_ | (refine zM ?_; intro _ _) | refine zX ?_ | (refine zC ?_; intro _ _ _ _) | (refine zS ?_; intro _ _) | (apply Ws <;> intro hg))
    refine WC.condP rfl (fun hd => ?_) (fun hd => ?_)
    · repeat' (first | refine zP ?_ | refine zA ?_ | (refine zM ?_; intro _ _) | refine zX ?_ | (refine zC ?_; intro _ _ _ _) | (refine zS ?_; intro _ _) | (apply Ws <;> intro hg))
      exact Ends.ret1 rfl ⟨by rw [decide_eq_false (fun h => hd (by rw [h]))], rfl⟩
    · repeat' (first | refine zP ?_ | refine zA ?_ | (refine zM ?_; intro _ _) | refine zX ?_ | (refine zC ?_; intro _ _ _ _) | (refine zS ?_; intro _ _) | (apply Ws <;> intro hg))
      refine Ends.loop (k + 1) (by omega) (by repeat' (first | exact .nil | refine .cons rfl ?_)) rfl ⟨rfl, hk', fun j hj => ?_⟩
      rcases Nat.lt_or_ge j k with h | h
      · exact hno j h
      · have : j = k := by omega
        subst this; omega
  · repeat' (first | refine zP ?_ | refine zA ?_ | (refine zM ?_; intro _ _) | refine zX ?_ | (refine zC ?_; intro _ _ _ _) | (refine zS ?_; intro _ _) | (apply Ws <;> intro hg))
    exact Ends.ret1 rfl ⟨by rw [decide_eq_true (ext_getD (a := 0) hle fun i hi => hno i (by omega))], rfl⟩
end
end Go.Proofs.Ytblopbimchkneaa.Md

namespace Go.Proofs.Ytblopbimchkneaa.Md
open Go Go.Abs Go.Mth
set_option linter.unusedVariables false
set_option linter.unusedSimpArgs false
def leaveTo (ns : List Nat) (s k : Nat) : List Nat := ((List.range k).filter fun i => !s.testBit i).map fun i => ns.getD i 0
def leave (ns : List Nat) (s : Nat) : List Nat := leaveTo ns s ns.length
def wearL (ns : List Nat) (s : Nat) : List Nat := ns.map fun c => c ^^^ (c &&& s)
def forgP (N : Nat) (ns : List Nat) (s : Nat) : Bool := honB N (leave ns s)
def wornP (N : Nat) (ns : List Nat) (s : Nat) : Bool := honB N (wearL ns s)
attribute [local irreducible] gOK WS WC WR WD Ends FS YS OpV seqK blockK loopK midK retK rdK asgK rangeEnd sat Cell

section
variable {M : HL} {n0 : Nat} {H : Heap} {v w : Value} {ns : List Nat}
end
end Go.Proofs.Ytblopbimchkneaa.Md

namespace Go.Proofs.Ytblopbimchkneaa.Md
open Go Go.Abs Go.Mth
set_option linter.unusedVariables false
set_option linter.unusedSimpArgs false
attribute [local irreducible] gOK WS WC WR WD Ends FS YS OpV seqK blockK loopK midK retK rdK asgK rangeEnd sat Cell
section
variable {M : HL} {n0 : Nat} {H : Heap} {v w : Value} {ns : List Nat}
theorem same_fs (hH : hasH M n0 H) {xs ys : List Nat} (hS : Sl M 1 v (nodes xs)) (hU : Sl M 1 w (nodes ys)) (hx : xs.length ≤ 1000) (hy : ys.length ≤ 1000) :
    FS C 29 [v, w] H (fun e H' => e = .bool (decide (xs = ys)) ∧ H' = H) := by
  refine FS.intro (pf := pf29) rfl rfl rfl ?_
  repeat' (first | refine zP ?_ | refine zA ?_ | (refine zM ?_; intro _ _) | refine zX ?_ | (refine zC ?_; intro _ _ _ _) | (refine zS ?_; intro _ _) | (apply Ws <;> intro hg))
  refine WC.condP rfl (fun hne => ?_) (fun hne => ?_)
  · repeat' (first | refine zP ?_ | refine zA ?_ | (refine zM ?_; intro _ _) | refine zX ?_ | (refine zC ?_; intro _ _ _ _) | (refine zS ?_; intro _ _) | (apply Ws <;> intro hg))
    exact Ends.ret1 rfl ⟨by rw [decide_eq_false (fun h => hne (by rw [h]))], rfl⟩
  have hle : xs.length = ys.length := by omega
  repeat' (first | refine zP ?_ | refine zA ?_ | (refine zM ?_; intro _ _) | refine zX ?_ | (refine zC ?_; intro _ _ _ _) | (refine zS ?_; intro _ _) | (apply Ws <;> intro hg))
  refine WC.loopX [(0, _), (1, _)] (fun k : Nat => [(5, .int .i64 (k : Int))]) [] (fun k H' => H' = H ∧ k ≤ xs.length ∧ ∀ j, j < k → xs.getD j 0 = ys.getD j 0) (fun k => xs.length - k) 0 (by repeat' (first | exact .nil | refine .cons rfl ?_)) rfl ⟨rfl, Nat.zero_le _, fun j h => absurd h (Nat.not_lt_zero _)⟩ ?_
  rintro k H' ⟨rfl, hk, hno⟩
  dsimp only [List.cons_append, List.nil_append]
  repeat' (first | refine zP ?_ | refine zA ?_ | (refine zM ?_; intro _ _) | refine zX ?_ | (refine zC ?_; intro _ _ _ _) | (refine zS ?_; intro _ _) | (apply Ws <;> intro hg))
  refine WC.condP rfl (fun hlt => ?_) (fun hlt => ?_)
  · have hk' : k < xs.length := by omega
    have hk2 : k < ys.length := by omega
    repeat' (first | refine zP ?_ | refine zA ?_ | (refine zM ?_; intro _ _) | refine zX ?_ | (refine zC ?_; intro _ _ _ _) | (refine zS ?_; intro _ _) | (apply Ws <;> intro hg))
    refine WC.condP rfl (fun hd => ?_) (fun hd => ?_)
    · repeat' (first | refine zP ?_ | refine zA ?_ | (refine zM ?_; intro _ _) | refine zX ?_ | (refine zC ?_; intro _ _ _ _) | (refine zS ?_; intro _ _) | (apply Ws <;> intro hg))
      exact Ends.ret1 rfl ⟨by rw [decide_eq_false (fun h => hd (by rw [h]))], rfl⟩
    · repeat' (first | refine zP ?_ | refine zA ?_ | (refine zM ?_; intro _ _) | refine zX ?_ | (refine zC ?_; intro _ _ _ _) | (refine zS ?_; intro _ _) | (apply Ws <;> intro hg))
      refine Ends.loop (k + 1) (by omega) (by repeat' (first | exact .nil | refine .cons rfl ?_)) rfl ⟨rfl, hk', fun j hj => ?_⟩
      rcases Nat.lt_or_ge j k with h | h
      · exact hno j h
      · have : j = k := by omega
        subst this; omega
  · repeat' (first | refine zP ?_ | refine zA ?_ | (refine zM ?_; intro _ _) | refine zX ?_ | (refine zC ?_; intro _ _ _ _) | (refine zS ?_; intro _ _) | (apply Ws <;> intro hg))
    exact Ends.ret1 rfl ⟨by rw [decide_eq_true (ext_getD (a := 0) hle fun i hi => hno i (by omega))], rfl⟩
end
end Go.Proofs.Ytblopbimchkneaa.Md

namespace Go.Proofs.Ytblopbimchkneaa.Md
open Go Go.Abs Go.Mth
set_option linter.unusedVariables false
set_option linter.unusedSimpArgs false
attribute [local irreducible] gOK WS WC WR WD Ends FS YS OpV seqK blockK loopK midK retK rdK asgK rangeEnd sat Cell
section
variable {M : HL} {n0 : Nat} {H : Heap} {v : Value} {xs : List Int} {m : Int}
theorem OriginE_fs (hH : hasH M n0 H) (hS : Sl M 1 v (ints xs)) (hl : xs.length ≤ 1000) (h0 : castsE m xs ≠ 0) :
    FS C 23 [.int .i64 m, v] H (fun e H' => e = .tuple #[.slice none 0 0, .int .i64 (castsE m xs)] ∧ H' = H) := by
  refine FS.intro (pf := pf23) rfl rfl rfl ?_
  repeat' (first | refine zP ?_ | refine zA ?_ | (refine zM ?_; intro _ _) | refine zX ?_ | (refine zC ?_; intro _ _ _ _) | (refine zS ?_; intro _ _) | (apply Ws <;> intro hg))
  refine WR.call (by first | exact gN | exact gS rfl) rfl rfl (Check_fs hH hS hl _) ?_
  rintro _ H1 ⟨rfl, rfl⟩
  repeat' (first | refine zP ?_ | refine zA ?_ | (refine zM ?_; intro _ _) | refine zX ?_ | (refine zC ?_; intro _ _ _ _) | (refine zS ?_; intro _ _) | refine zO ?_ | (apply Ws <;> intro hg))
  exact Ends.ret2 rfl rfl ⟨rfl, rfl⟩
theorem PathE_fs (hH : hasH M n0 H) (hS : Sl M 1 v (ints xs)) (hl : xs.length ≤ 1000) (h0 : castsE m xs ≠ 0) (i : Int) :
    FS C 25 [.int .i64 m, v, .int .i64 i] H (fun e H' => e = .tuple #[.slice none 0 0, .int .i64 (castsE m xs)] ∧ H' = H) := by
  refine FS.intro (pf := pf25) rfl rfl rfl ?_
  repeat' (first | refine zP ?_ | refine zA ?_ | (refine zM ?_; intro _ _) | refine zX ?_ | (refine zC ?_; intro _ _ _ _) | (refine zS ?_; intro _ _) | (apply Ws <;> intro hg))
  refine WR.call (by first | exact gN | exact gS rfl) rfl rfl (Check_fs hH hS hl _) ?_
  rintro _ H1 ⟨rfl, rfl⟩
  repeat' (first | refine zP ?_ | refine zA ?_ | (refine zM ?_; intro _ _) | refine zX ?_ | (refine zC ?_; intro _ _ _ _) | (refine zS ?_; intro _ _) | refine zO ?_ | (apply Ws <;> intro hg))
  exact Ends.ret2 rfl rfl ⟨rfl, rfl⟩
theorem LastE_fs (hH : hasH M n0 H) (hS : Sl M 1 v (ints xs)) (hl : xs.length ≤ 1000) (h0 : castsE m xs ≠ 0) (i j : Int) :
    FS C 27 [.int .i64 m, v, .int .i64 i, .int .i64 j] H (fun e H' => e = .tuple #[.int .i64 0, .int .i64 (castsE m xs)] ∧ H' = H) := by
  refine FS.intro (pf := pf27) rfl rfl rfl ?_
  repeat' (first | refine zP ?_ | refine zA ?_ | (refine zM ?_; intro _ _) | refine zX ?_ | (refine zC ?_; intro _ _ _ _) | (refine zS ?_; intro _ _) | (apply Ws <;> intro hg))
  refine WR.call (by first | exact gN | exact gS rfl) rfl rfl (Check_fs hH hS hl _) ?_
  rintro _ H1 ⟨rfl, rfl⟩
  repeat' (first | refine zP ?_ | refine zA ?_ | (refine zM ?_; intro _ _) | refine zX ?_ | (refine zC ?_; intro _ _ _ _) | (refine zS ?_; intro _ _) | refine zO ?_ | (apply Ws <;> intro hg))
  exact Ends.ret2 rfl rfl ⟨rfl, rfl⟩
theorem rOriginE_fs (hH : hasH M n0 H) (hS : Sl M 1 v (ints xs)) (hl : xs.length ≤ 1000) (h0 : castsE m xs ≠ 0) :
    FS C 24 [.int .i64 m, v] H (fun e H' => e = .tuple #[.slice none 0 0, .int .i64 (castsE m xs)] ∧ H' = H) := by
  refine FS.intro (pf := pf24) rfl rfl rfl ?_
  repeat' (first | refine zP ?_ | refine zA ?_ | (refine zM ?_; intro _ _) | refine zX ?_ | (refine zC ?_; intro _ _ _ _) | (refine zS ?_; intro _ _) | (apply Ws <;> intro hg))
  refine WR.call (by first | exact gN | exact gS rfl) rfl rfl (rCheck_fs hH hS hl _) ?_
  rintro _ H1 ⟨rfl, rfl⟩
  repeat' (first | refine zP ?_ | refine zA ?_ | (refine zM ?_; intro _ _) | refine zX ?_ | (refine zC ?_; intro _ _ _ _) | (refine zS ?_; intro _ _) | refine zO ?_ | (apply Ws <;> intro hg))
  exact Ends.ret2 rfl rfl ⟨rfl, rfl⟩
theorem openedE_fs (hH : hasH M n0 H) (hS : Sl M 1 v (ints xs)) (hl : xs.length ≤ 1000) (h0 : castsE m xs ≠ 0) (i j : Int) :
    FS C 67 [.int .i64 m, v, .int .i64 i, .int .i64 j] H (fun e H' => e = .int .i64 (castsE m xs) ∧ H' = H) := by
  refine FS.intro (pf := pf67) rfl rfl rfl ?_
  repeat' (first | refine zP ?_ | refine zA ?_ | (refine zM ?_; intro _ _) | refine zX ?_ | (refine zC ?_; intro _ _ _ _) | (refine zS ?_; intro _ _) | (apply Ws <;> intro hg))
  refine WR.call (by first | exact gN | exact gS rfl) rfl rfl (rCheck_fs hH hS hl _) ?_
  rintro _ H1 ⟨rfl, rfl⟩
  repeat' (first | refine zP ?_ | refine zA ?_ | (refine zM ?_; intro _ _) | refine zX ?_ | (refine zC ?_; intro _ _ _ _) | (refine zS ?_; intro _ _) | refine zO ?_ | (apply Ws <;> intro hg))
  exact Ends.ret1 rfl ⟨rfl, rfl⟩
theorem rPathE_fs (hH : hasH M n0 H) (hS : Sl M 1 v (ints xs)) (hl : xs.length ≤ 1000) (h0 : castsE m xs ≠ 0) (i : Int) :
    FS C 26 [.int .i64 m, v, .int .i64 i] H (fun e H' => e = .tuple #[.slice none 0 0, .int .i64 (castsE m xs)] ∧ H' = H) := by
  refine FS.intro (pf := pf26) rfl rfl rfl ?_
  repeat' (first | refine zP ?_ | refine zA ?_ | (refine zM ?_; intro _ _) | refine zX ?_ | (refine zC ?_; intro _ _ _ _) | (refine zS ?_; intro _ _) | (apply Ws <;> intro hg))
  refine WR.call (by first | exact gN | exact gS rfl) rfl rfl (openedE_fs hH hS hl h0 i i) ?_
  rintro _ H1 ⟨rfl, rfl⟩
  repeat' (first | refine zP ?_ | refine zA ?_ | (refine zM ?_; intro _ _) | refine zX ?_ | (refine zC ?_; intro _ _ _ _) | (refine zS ?_; intro _ _) | refine zO ?_ | (apply Ws <;> intro hg))
  exact Ends.ret2 rfl rfl ⟨rfl, rfl⟩
theorem rLastE_fs (hH : hasH M n0 H) (hS : Sl M 1 v (ints xs)) (hl : xs.length ≤ 1000) (h0 : castsE m xs ≠ 0) (i j : Int) :
    FS C 28 [.int .i64 m, v, .int .i64 i, .int .i64 j] H (fun e H' => e = .tuple #[.int .i64 0, .int .i64 (castsE m xs)] ∧ H' = H) := by
  refine FS.intro (pf := pf28) rfl rfl rfl ?_
  repeat' (first | refine zP ?_ | refine zA ?_ | (refine zM ?_; intro _ _) | refine zX ?_ | (refine zC ?_; intro _ _ _ _) | (refine zS ?_; intro _ _) | (apply Ws <;> intro hg))
  refine WR.call (by first | exact gN | exact gS rfl) rfl rfl (openedE_fs hH hS hl h0 i j) ?_
  rintro _ H1 ⟨rfl, rfl⟩
  repeat' (first | refine zP ?_ | refine zA ?_ | (refine zM ?_; intro _ _) | refine zX ?_ | (refine zC ?_; intro _ _ _ _) | (refine zS ?_; intro _ _) | refine zO ?_ | (apply Ws <;> intro hg))
  exact Ends.ret2 rfl rfl ⟨rfl, rfl⟩

set_option maxHeartbeats 2000000 in
theorem MouldOrigins_fs (hH : hasH M n0 H) (hS : Sl M 1 v (ints xs)) (i j : Int) :
    FS C 4 [.int .i64 m, v, .int .i64 i, .int .i64 j] H (fun e H' => e = .bool true) := by
  refine FS.intro (pf := pf4) rfl rfl rfl ?_
  repeat' (first | refine zP ?_ | refine zA ?_ | (refine zM ?_; intro _ _) | refine zX ?_ | (refine zC ?_; intro _ _ _ _) | (refine zS ?_; intro _ _) | (apply Ws <;> intro hg))
  refine WC.condP rfl (fun hlen => ?_) (fun hlen => ?_)
  · repeat' (first | refine zP ?_ | refine zA ?_ | (refine zM ?_; intro _ _) | refine zX ?_ | (refine zC ?_; intro _ _ _ _) | (refine zS ?_; intro _ _) | (apply Ws <;> intro hg))
    refine WR.call (by first | exact gN | exact gS rfl) rfl rfl (FS.works (C := C) (R := fun v H' => v = .bool true) rfl) ?_
    rintro _ _ rfl
    repeat' (first | refine zP ?_ | refine zA ?_ | (refine zM ?_; intro _ _) | refine zX ?_ | (refine zC ?_; intro _ _ _ _) | (refine zS ?_; intro _ _) | (apply Ws <;> intro hg))
    exact Ends.ret1 rfl rfl
  have hl : xs.length ≤ 1000 := by omega
  by_cases h0 : castsE m xs = 0
  · obtain ⟨N, ns, rfl, h1, h2, rfl, h3, h4⟩ := casts_ok h0
    rw [← nodesI] at hS
    repeat' (first | refine zP ?_ | refine zA ?_ | (refine zM ?_; intro _ _) | refine zX ?_ | (refine zC ?_; intro _ _ _ _) | (refine zS ?_; intro _ _) | (apply Ws <;> intro hg))
    refine WR.call (by first | exact gN | exact gS rfl) rfl rfl (Origin_fs hH hS h3 h1 h2 h4) ?_
    rintro _ H1 ⟨q1, u1, M1, n1, rfl, hr1, hO1, hn1, hH1⟩
    have hS1 := hS.mono (M' := M1 ++ M) fun p hp => List.mem_append_right _ hp
    clear hH
    repeat' (first | refine zP ?_ | refine zA ?_ | (refine zM ?_; intro _ _) | refine zX ?_ | (refine zC ?_; intro _ _ _ _) | (refine zS ?_; intro _ _) | (apply Ws <;> intro hg))
    refine WR.call (by first | exact gN | exact gS rfl) rfl rfl (rOrigin_fs hH1 hS1 h3 h1 h2 h4) ?_
    rintro _ H2 ⟨q2, u2, M2, n2, rfl, hr2, hO2, hn2, hH2⟩
    have hS2 := hS1.mono (M' := M2 ++ (M1 ++ M)) fun p hp => List.mem_append_right _ hp
    clear hH1
    repeat' (first | refine zP ?_ | refine zA ?_ | (refine zM ?_; intro _ _) | refine zX ?_ | (refine zC ?_; intro _ _ _ _) | (refine zS ?_; intro _ _) | (apply Ws <;> intro hg))
    refine WR.call (by first | exact gN | exact gS rfl) rfl rfl (Path_fs hH2 hS2 h3 h1 h2 h4 i) ?_
    rintro _ H3 ⟨l3, u3, f3, M3, n3, rfl, hr3, hl3, hO3, hn3, hH3⟩
    have hS3 := hS2.mono (M' := M3 ++ (M2 ++ (M1 ++ M))) fun p hp => List.mem_append_right _ hp
    clear hH2
    repeat' (first | refine zP ?_ | refine zA ?_ | (refine zM ?_; intro _ _) | refine zX ?_ | (refine zC ?_; intro _ _ _ _) | (refine zS ?_; intro _ _) | (apply Ws <;> intro hg))
    refine WR.call (by first | exact gN | exact gS rfl) rfl rfl (rPath_fs hH3 hS3 h3 h1 h2 h4 i) ?_
    rintro _ H4 ⟨l4, u4, f4, M4, n4, rfl, hr4, hl4, hO4, hn4, hH4⟩
    have hS4 := hS3.mono (M' := M4 ++ (M3 ++ (M2 ++ (M1 ++ M)))) fun p hp => List.mem_append_right _ hp
    clear hH3
    repeat' (first | refine zP ?_ | refine zA ?_ | (refine zM ?_; intro _ _) | refine zX ?_ | (refine zC ?_; intro _ _ _ _) | (refine zS ?_; intro _ _) | (apply Ws <;> intro hg))
    refine WR.call (by first | exact gN | exact gS rfl) rfl rfl (Last_fs hH4 hS4 h3 h1 h2 h4 i j) ?_
    rintro _ H5 ⟨q5, f5, rfl, hr5, n5, hn5, hH5⟩
    clear hH4
    repeat' (first | refine zP ?_ | refine zA ?_ | (refine zM ?_; intro _ _) | refine zX ?_ | (refine zC ?_; intro _ _ _ _) | (refine zS ?_; intro _ _) | (apply Ws <;> intro hg))
    refine WR.call (by first | exact gN | exact gS rfl) rfl rfl (rLast_fs hH5 hS4 h3 h1 h2 h4 i j) ?_
    rintro _ H6 ⟨q6, f6, rfl, hr6, n6, hn6, hH6⟩
    clear hH5
    have hq : q1 = q2 := by
      unfold OrgR at hr1 hr2
      cases hh : honB N ns with
      | true => rw [if_pos hh] at hr1 hr2; exact hr1.unique hr2
      | false => rw [if_neg (by rw [hh]; decide)] at hr1 hr2; rw [hr1, hr2]
    have hql : q1.length ≤ 6 := by
      unfold OrgR at hr1
      cases hh : honB N ns with
      | true => rw [if_pos hh] at hr1; rw [hr1.1]; exact h2
      | false => rw [if_neg (by rw [hh]; decide)] at hr1; rw [hr1]; exact Nat.zero_le _
    subst hq
    obtain ⟨rfl, rfl⟩ := hr3.unique hr4
    obtain ⟨rfl, rfl⟩ := hr5.unique hr6
    have hU1 := (hO1.sl M).mono (M' := M4 ++ (M3 ++ (M2 ++ (M1 ++ M)))) fun p hp => List.mem_append_right _ (List.mem_append_right _ (List.mem_append_right _ hp))
    have hU2 := (hO2.sl (M1 ++ M)).mono (M' := M4 ++ (M3 ++ (M2 ++ (M1 ++ M)))) fun p hp => List.mem_append_right _ (List.mem_append_right _ hp)
    have hU3 := (hO3.sl (M2 ++ (M1 ++ M))).mono (M' := M4 ++ (M3 ++ (M2 ++ (M1 ++ M)))) fun p hp => List.mem_append_right _ hp
    have hU4 := hO4.sl (M3 ++ (M2 ++ (M1 ++ M)))
    obtain ⟨e5, he5⟩ : ∃ e : Int, (if honB N ns = true then (0 : Int) else 12) = e := ⟨_, rfl⟩
    rw [he5]
    repeat' (first | refine zP ?_ | refine zA ?_ | (refine zM ?_; intro _ _) | refine zX ?_ | (refine zC ?_; intro _ _ _ _) | (refine zS ?_; intro _ _) | (apply Ws <;> intro hg))
    refine WR.call (by first | exact gN | exact gS rfl) rfl rfl (sameI_fs hH6 hU1 hU2 (by omega) (by omega)) ?_
    rintro _ H7 ⟨rfl, rfl⟩
    rw [decide_eq_true rfl]
    repeat' (first | refine zP ?_ | refine zA ?_ | (refine zM ?_; intro _ _) | refine zX ?_ | (refine zC ?_; intro _ _ _ _) | (refine zS ?_; intro _ _) | refine zO ?_ | (apply Ws <;> intro hg))
    refine WR.call (by first | exact gN | exact gS rfl) rfl rfl (same_fs hH6 hU3 hU4 (by omega) (by omega)) ?_
    rintro _ H8 ⟨rfl, rfl⟩
    rw [decide_eq_true rfl]
    repeat' (first | refine zP ?_ | refine zA ?_ | (refine zM ?_; intro _ _) | refine zX ?_ | (refine zC ?_; intro _ _ _ _) | (refine zS ?_; intro _ _) | refine zO ?_ | (apply Ws <;> intro hg))
    refine WR.call (by first | exact gN | exact gS rfl) rfl rfl (FS.works (C := C) (R := fun v H' => v = .bool true) rfl) ?_
    rintro _ _ rfl
    repeat' (first | refine zP ?_ | refine zA ?_ | (refine zM ?_; intro _ _) | refine zX ?_ | (refine zC ?_; intro _ _ _ _) | (refine zS ?_; intro _ _) | (apply Ws <;> intro hg))
    exact Ends.ret1 rfl rfl
  · repeat' (first | refine zP ?_ | refine zA ?_ | (refine zM ?_; intro _ _) | refine zX ?_ | (refine zC ?_; intro _ _ _ _) | (refine zS ?_; intro _ _) | (apply Ws <;> intro hg))
    refine WR.call (by first | exact gN | exact gS rfl) rfl rfl (OriginE_fs hH hS hl h0) ?_
    rintro _ H1 ⟨rfl, rfl⟩
    repeat' (first | refine zP ?_ | refine zA ?_ | (refine zM ?_; intro _ _) | refine zX ?_ | (refine zC ?_; intro _ _ _ _) | (refine zS ?_; intro _ _) | (apply Ws <;> intro hg))
    refine WR.call (by first | exact gN | exact gS rfl) rfl rfl (rOriginE_fs hH hS hl h0) ?_
    rintro _ H2 ⟨rfl, rfl⟩
    repeat' (first | refine zP ?_ | refine zA ?_ | (refine zM ?_; intro _ _) | refine zX ?_ | (refine zC ?_; intro _ _ _ _) | (refine zS ?_; intro _ _) | (apply Ws <;> intro hg))
    refine WR.call (by first | exact gN | exact gS rfl) rfl rfl (PathE_fs hH hS hl h0 i) ?_
    rintro _ H3 ⟨rfl, rfl⟩
    repeat' (first | refine zP ?_ | refine zA ?_ | (refine zM ?_; intro _ _) | refine zX ?_ | (refine zC ?_; intro _ _ _ _) | (refine zS ?_; intro _ _) | (apply Ws <;> intro hg))
    refine WR.call (by first | exact gN | exact gS rfl) rfl rfl (rPathE_fs hH hS hl h0 i) ?_
    rintro _ H4 ⟨rfl, rfl⟩
    repeat' (first | refine zP ?_ | refine zA ?_ | (refine zM ?_; intro _ _) | refine zX ?_ | (refine zC ?_; intro _ _ _ _) | (refine zS ?_; intro _ _) | (apply Ws <;> intro hg))
    refine WR.call (by first | exact gN | exact gS rfl) rfl rfl (LastE_fs hH hS hl h0 i j) ?_
    rintro _ H5 ⟨rfl, rfl⟩
    repeat' (first | refine zP ?_ | refine zA ?_ | (refine zM ?_; intro _ _) | refine zX ?_ | (refine zC ?_; intro _ _ _ _) | (refine zS ?_; intro _ _) | (apply Ws <;> intro hg))
    refine WR.call (by first | exact gN | exact gS rfl) rfl rfl (rLastE_fs hH hS hl h0 i j) ?_
    rintro _ H6 ⟨rfl, rfl⟩
    repeat' (first | refine zP ?_ | refine zA ?_ | (refine zM ?_; intro _ _) | refine zX ?_ | (refine zC ?_; intro _ _ _ _) | (refine zS ?_; intro _ _) | (apply Ws <;> intro hg))
    refine WR.call (by first | exact gN | exact gS rfl) rfl rfl (same_fs hH (xs := []) (ys := []) (.nil 0) (.nil 0) (by simp) (by simp)) ?_
    rintro _ H7 ⟨rfl, rfl⟩
    rw [decide_eq_true rfl]
    repeat' (first | refine zP ?_ | refine zA ?_ | (refine zM ?_; intro _ _) | refine zX ?_ | (refine zC ?_; intro _ _ _ _) | (refine zS ?_; intro _ _) | refine zO ?_ | (apply Ws <;> intro hg))
    refine WR.call (by first | exact gN | exact gS rfl) rfl rfl (same_fs hH (xs := []) (ys := []) (.nil 0) (.nil 0) (by simp) (by simp)) ?_
    rintro _ H8 ⟨rfl, rfl⟩
    rw [decide_eq_true rfl]
    repeat' (first | refine zP ?_ | refine zA ?_ | (refine zM ?_; intro _ _) | refine zX ?_ | (refine zC ?_; intro _ _ _ _) | (refine zS ?_; intro _ _) | refine zO ?_ | (apply Ws <;> intro hg))
    refine WR.call (by first | exact gN | exact gS rfl) rfl rfl (FS.works (C := C) (R := fun v H' => v = .bool true) rfl) ?_
    rintro _ _ rfl
    repeat' (first | refine zP ?_ | refine zA ?_ | (refine zM ?_; intro _ _) | refine zX ?_ | (refine zC ?_; intro _ _ _ _) | (refine zS ?_; intro _ _) | (apply Ws <;> intro hg))
    exact Ends.ret1 rfl rfl
end
end Go.Proofs.Ytblopbimchkneaa.Md
