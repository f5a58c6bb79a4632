/- Texts of the law, joined. -/
import Derived.Test.YtblopbimchkneaaJ2
namespace Go.Proofs.Ytblopbimchkneaa.Md
open Go Go.Abs Go.Mth
set_option linter.unusedVariables false
set_option linter.unusedSimpArgs false
theorem ord_len_gt {a b : List Int} (h : b.length < a.length) : ¬ ordC a b < 0 := by
  have : cmpI (a.length : Int) (b.length : Int) = 1 := by unfold cmpI; rw [if_neg (by omega), if_pos (by omega)]
  unfold ordC; rw [this, if_pos (by decide)]; decide
theorem ord_len_eq {a b : List Int} (h : a.length = b.length) : ordC a b = lexC a b := by
  have : cmpI (a.length : Int) (b.length : Int) = 0 := cmp_zero.2 (by omega)
  unfold ordC; rw [this]; simp
structure GW where
  k : Nat
  v : Value
  s : Nat
  f : Bool
  b : List Nat
  Mx : HL
  n : Nat
attribute [local irreducible] gOK WS WC WR WD Ends FS YS OpV seqK blockK loopK midK retK rdK asgK rangeEnd sat Cell
section
variable {M : HL} {n0 : Nat} {H : Heap} {v w : Value} {ns : List Nat}
end
end Go.Proofs.Ytblopbimchkneaa.Md

namespace Go.Proofs.Ytblopbimchkneaa.Md
open Go Go.Abs Go.Mth
set_option linter.unusedVariables false
set_option linter.unusedSimpArgs false
theorem mask_bits {s n : Nat} (h : s < 2 ^ n) : maskN (bitsL s n) = s := Nat.eq_of_testBit_eq fun i => by
  rw [Bool.eq_iff_iff, mask_bit, mem_bits]
  refine ⟨fun h => h.2, fun hb => ⟨?_, hb⟩⟩
  rcases Nat.lt_or_ge i n with h1 | h1
  · exact h1
  · rw [Nat.testBit_lt_two_pow (Nat.lt_of_lt_of_le h (Nat.pow_le_pow_right (by omega) h1))] at hb; cases hb
theorem least_found {n k i : Nat} {P : Nat → Bool} (hk : ∀ t, t < 2 ^ n → P t = true → k ≤ (bitsL t n).length) (hi : i < (listsL n k []).length)
    (hno : ∀ j, j < i → P (maskN ((listsL n k []).getD j [])) = false) (hyes : P (maskN ((listsL n k []).getD i [])) = true) : LeastR n P ((listsL n k []).getD i []) := by
  obtain ⟨s, hs, hl, hlk⟩ := lists_bits.1 (getD_mem (a := []) hi)
  rw [hl, mask_bits hs] at hyes
  refine ⟨s, hs, hyes, hl, fun t ht hPt => ?_⟩
  have h1 := hk t ht hPt
  rcases Nat.lt_or_ge k (bitsL t n).length with h2 | h2
  · exact ord_len_gt (by rw [List.length_map, List.length_map]; omega)
  · have hm : bitsL t n ∈ listsL n k [] := lists_bits.2 ⟨t, ht, rfl, by omega⟩
    obtain ⟨j, hj, he⟩ := List.mem_iff_getElem.1 hm
    rcases Nat.lt_trichotomy j i with h3 | h3 | h3
    · have := hno j h3
      rw [getD_eq hj, he, mask_bits ht, hPt] at this; cases this
    · subst h3
      rw [getD_eq hj, he, (ord_zero _ _).2 rfl]; omega
    · have h4 := List.pairwise_iff_getElem.1 (lists_order (n := n) (m := k) (b := [])) i j hi hj h3
      rw [he] at h4
      rw [getD_eq hi]
      rw [getD_eq hi] at hlk
      rw [ord_len_eq (by simp; omega), lex_neg]; omega
theorem least_next {n k : Nat} {P : Nat → Bool} (hk : ∀ t, t < 2 ^ n → P t = true → k ≤ (bitsL t n).length) (hno : ∀ j, j < (listsL n k []).length → P (maskN ((listsL n k []).getD j [])) = false) :
    ∀ t, t < 2 ^ n → P t = true → k + 1 ≤ (bitsL t n).length := fun t ht hPt => by
  have h1 := hk t ht hPt
  rcases Nat.lt_or_ge k (bitsL t n).length with h2 | h2
  · exact h2
  · have hm : bitsL t n ∈ listsL n k [] := lists_bits.2 ⟨t, ht, rfl, by omega⟩
    obtain ⟨j, hj, he⟩ := List.mem_iff_getElem.1 hm
    have := hno j hj
    rw [getD_eq hj, he, mask_bits ht, hPt] at this; cases this
attribute [local irreducible] gOK WS WC WR WD Ends FS YS OpV seqK blockK loopK midK retK rdK asgK rangeEnd sat Cell
section
variable {M : HL} {n0 : Nat} {H : Heap} {v w : Value} {ns : List Nat}
theorem rForged_fs (hH : hasH M n0 H) (hS : Sl M 1 v (nodes ns)) (hl : ns.length ≤ 8) {N : Nat} (hN1 : 1 ≤ N) (hN : N ≤ 6) (hb : ∀ x ∈ ns, x < 2 ^ N) :
    FS C 31 [.int .i64 (N : Int), v] H (fun e H' => ∃ r u Mx n', e = .tuple #[u, .int .i64 0] ∧ LeastR ns.length (forgP N ns) r ∧ Sl (Mx ++ M) 1 u (nodes r) ∧ n0 ≤ n' ∧ hasH (Mx ++ M) n' H') := by
  have hSI : Unit → Sl M 1 v (ints (ns.map fun (x : Nat) => (x : Int))) := fun _ => by rw [← nodesI]; exact hS
  have hb62 := lt_62 hN hb
  refine FS.intro (pf := pf31) rfl rfl rfl ?_
  repeat' (first | refine zP ?_ | refine zA ?_ | (refine zM ?_; intro _ _) | refine zX ?_ | (refine zC ?_; intro _ _ _ _) | (refine zS ?_; intro _ _) | (apply Ws <;> intro hg))
  refine WR.call (by first | exact gN | exact gS rfl) rfl rfl (rCheck_fs hH (hSI ()) (by simp; omega) _) ?_
  rintro _ H1 ⟨rfl, rfl⟩
  rw [casts_intro hN1 hN hl hb]
  repeat' (first | refine zP ?_ | refine zA ?_ | (refine zM ?_; intro _ _) | refine zX ?_ | (refine zC ?_; intro _ _ _ _) | (refine zS ?_; intro _ _) | (apply Ws <;> intro hg))
  refine WC.loopX [(0, _), (1, _)] (fun s : Nat × Nat => [(7, .int .i64 (s.1 : Int))]) [] (fun s H' => n0 ≤ s.2 ∧ hasH M s.2 H' ∧ ∀ t, t < 2 ^ ns.length → forgP N ns t = true → s.1 ≤ (bitsL t ns.length).length) (fun s => ns.length + 1 - s.1) (0, n0) (by repeat' (first | exact .nil | refine .cons rfl ?_)) rfl ⟨Nat.le_refl _, hH, fun _ _ _ => Nat.zero_le _⟩ ?_
  clear hH
  rintro ⟨k, n1⟩ H2 ⟨hn1, hH2, hk⟩
  simp only at hn1 hH2 hk
  have hkl : k ≤ ns.length := by
    have h1 := hk (2 ^ ns.length - 1) (by have := Nat.two_pow_pos ns.length; omega) (forg_all N ns)
    have := bits_len (2 ^ ns.length - 1) ns.length
    omega
  dsimp only [List.cons_append, List.nil_append]
  repeat' (first | refine zP ?_ | refine zA ?_ | (refine zM ?_; intro _ _) | refine zX ?_ | (refine zC ?_; intro _ _ _ _) | (refine zS ?_; intro _ _) | (apply Ws <;> intro hg))
  refine WR.call (by first | exact gN | exact gS rfl) rfl rfl (lists_fs (F := []) hl k hH2 (b := []) (.nil 0) (fun _ => rfl) .nil (fun x hx => by cases hx) (by simp; omega)) ?_
  rintro lv H3 ⟨vs, Mo, Mi, n3, hO, _, hR, hn3, hH3⟩
  replace hH3 : hasH (Mo ++ (Mi ++ M)) n3 H3 := hH3
  have hSv := hO.sl (Mi ++ M)
  have hS3 := hS.mono (M' := Mo ++ (Mi ++ M)) fun p hp => List.mem_append_right _ (List.mem_append_right _ hp)
  have hvl := hR.1
  have h256 : vs.length ≤ 256 := by
    rw [hvl]
    exact Nat.le_trans (lists_len .nil (fun x hx => by cases hx)) (Nat.pow_le_pow_right (n := 2) (by omega) hl)
  repeat' (first | refine zP ?_ | refine zA ?_ | (refine zM ?_; intro _ _) | refine zX ?_ | (refine zC ?_; intro _ _ _ _) | (refine zS ?_; intro _ _) | (apply Ws <;> intro hg))
  refine WC.loopX [(0, _), (1, _), (7, _), (8, _)] (fun s : Nat × Nat => [(9, .int .i64 (s.1 : Int))]) [] (fun s H' => s.1 ≤ vs.length ∧ n1 ≤ s.2 ∧ hasH (Mo ++ (Mi ++ M)) s.2 H' ∧ ∀ j, j < s.1 → forgP N ns (maskN ((listsL ns.length k []).getD j [])) = false) (fun s => vs.length - s.1) (0, n3) (by repeat' (first | exact .nil | refine .cons rfl ?_)) rfl ⟨Nat.zero_le _, hn3, hH3, fun x h => absurd h (Nat.not_lt_zero _)⟩ ?_
  clear hH3
  rintro ⟨i, n4⟩ H4 ⟨hi, hn4, hH4, hno⟩
  simp only at hi hn4 hH4 hno
  dsimp only [List.cons_append, List.nil_append]
  repeat' (first | refine zP ?_ | refine zA ?_ | (refine zM ?_; intro _ _) | refine zX ?_ | (refine zC ?_; intro _ _ _ _) | (refine zS ?_; intro _ _) | (apply Ws <;> intro hg))
  refine WC.condP rfl (fun hlt => ?_) (fun hlt => ?_)
  · have hi' : i < vs.length := by omega
    have hSi := hR.2 i (by omega)
    have hSi4 := hSi.mono (M' := Mo ++ (Mi ++ M)) fun p hp => List.mem_append_right _ hp
    have hil : i < (listsL ns.length k []).length := by omega
    have hlk : ((listsL ns.length k []).getD i []).length ≤ 1000 := by
      obtain ⟨s, _, _, h⟩ := lists_bits.1 (getD_mem (a := []) hil)
      omega
    repeat' (first | refine zP ?_ | refine zA ?_ | (refine zM ?_; intro _ _) | refine zX ?_ | (refine zC ?_; intro _ _ _ _) | (refine zS ?_; intro _ _) | (apply Ws <;> intro hg))
    refine WR.call (by first | exact gN | exact gS rfl) rfl rfl (without_fs hH4 hS3 (by omega) hSi4 hlk) ?_
    rintro wv H5 ⟨Mx, n5, hOw, hn5, hH5⟩
    refine WR.call (by first | exact gN | exact gS rfl) rfl rfl (rhonest_fs hH5 (hOw.sl (Mo ++ (Mi ++ M))) (by have := leave_len ns (maskN ((listsL ns.length k []).getD i [])) ns.length; show (leaveTo ns _ ns.length).length ≤ 1000; omega) (lt_62 hN fun x hx => hb x (leave_mem hx)) (by omega)) ?_
    rintro _ H6 ⟨rfl, rfl⟩
    have hH7 := hH5.sub (List.sublist_append_right Mx (Mo ++ (Mi ++ M)))
    cases hh : honB N (leave ns (maskN ((listsL ns.length k []).getD i []))) with
    | true =>
      repeat' (first | refine zP ?_ | refine zA ?_ | (refine zM ?_; intro _ _) | refine zX ?_ | (refine zC ?_; intro _ _ _ _) | (refine zS ?_; intro _ _) | (apply Ws <;> intro hg))
      exact Ends.ret2 rfl rfl ⟨_, _, Mi, n5, rfl, least_found hk hil hno hh, hSi, by omega, hH7.sub (List.sublist_append_right Mo (Mi ++ M))⟩
    | false =>
      repeat' (first | refine zP ?_ | refine zA ?_ | (refine zM ?_; intro _ _) | refine zX ?_ | (refine zC ?_; intro _ _ _ _) | (refine zS ?_; intro _ _) | (apply Ws <;> intro hg))
      refine Ends.loop (i + 1, n5) (by show vs.length - (i + 1) < vs.length - i; omega) (by repeat' (first | exact .nil | refine .cons rfl ?_)) rfl ⟨hi', by simp only; omega, hH7, fun j hj => ?_⟩
      replace hj : j < i + 1 := hj
      rcases Nat.lt_or_ge j i with h | h
      · exact hno j h
      · have : j = i := by omega
        subst this; exact hh
  · repeat' (first | refine zP ?_ | refine zA ?_ | (refine zM ?_; intro _ _) | refine zX ?_ | (refine zC ?_; intro _ _ _ _) | (refine zS ?_; intro _ _) | (apply Ws <;> intro hg))
    exact Ends.loop (k + 1, n4) (by show ns.length + 1 - (k + 1) < ns.length + 1 - k; omega) (by repeat' (first | exact .nil | refine .cons rfl ?_)) rfl ⟨by simp only; omega, hH4.sub ((List.sublist_append_right Mi M).trans (List.sublist_append_right Mo (Mi ++ M))), least_next hk fun j hj => hno j (by omega)⟩
theorem rWorn_fs (hH : hasH M n0 H) (hS : Sl M 1 v (nodes ns)) (hl : ns.length ≤ 8) {N : Nat} (hN1 : 1 ≤ N) (hN : N ≤ 6) (hb : ∀ x ∈ ns, x < 2 ^ N) :
    FS C 33 [.int .i64 (N : Int), v] H (fun e H' => ∃ r u Mx n', e = .tuple #[u, .int .i64 0] ∧ LeastR N (wornP N ns) r ∧ Sl (Mx ++ M) 1 u (nodes r) ∧ n0 ≤ n' ∧ hasH (Mx ++ M) n' H') := by
  have hSI : Unit → Sl M 1 v (ints (ns.map fun (x : Nat) => (x : Int))) := fun _ => by rw [← nodesI]; exact hS
  have hb62 := lt_62 hN hb
  have hb64 : ∀ x ∈ ns, x < 64 := fun x hx => Nat.lt_of_lt_of_le (hb x hx) (pow_64 hN)
  refine FS.intro (pf := pf33) rfl rfl rfl ?_
  repeat' (first | refine zP ?_ | refine zA ?_ | (refine zM ?_; intro _ _) | refine zX ?_ | (refine zC ?_; intro _ _ _ _) | (refine zS ?_; intro _ _) | (apply Ws <;> intro hg))
  refine WR.call (by first | exact gN | exact gS rfl) rfl rfl (rCheck_fs hH (hSI ()) (by simp; omega) _) ?_
  rintro _ H1 ⟨rfl, rfl⟩
  rw [casts_intro hN1 hN hl hb]
  repeat' (first | refine zP ?_ | refine zA ?_ | (refine zM ?_; intro _ _) | refine zX ?_ | (refine zC ?_; intro _ _ _ _) | (refine zS ?_; intro _ _) | (apply Ws <;> intro hg))
  refine WC.loopX [(0, _), (1, _)] (fun s : Nat × Nat => [(7, .int .i64 (s.1 : Int))]) [] (fun s H' => n0 ≤ s.2 ∧ hasH M s.2 H' ∧ ∀ t, t < 2 ^ N → wornP N ns t = true → s.1 ≤ (bitsL t N).length) (fun s => N + 1 - s.1) (0, n0) (by repeat' (first | exact .nil | refine .cons rfl ?_)) rfl ⟨Nat.le_refl _, hH, fun _ _ _ => Nat.zero_le _⟩ ?_
  clear hH
  rintro ⟨k, n1⟩ H2 ⟨hn1, hH2, hk⟩
  simp only at hn1 hH2 hk
  have hkl : k ≤ N := by
    have h1 := hk (2 ^ N - 1) (by have := Nat.two_pow_pos N; omega) (worn_all hb)
    have := bits_len (2 ^ N - 1) N
    omega
  dsimp only [List.cons_append, List.nil_append]
  repeat' (first | refine zP ?_ | refine zA ?_ | (refine zM ?_; intro _ _) | refine zX ?_ | (refine zC ?_; intro _ _ _ _) | (refine zS ?_; intro _ _) | (apply Ws <;> intro hg))
  refine WR.call (by first | exact gN | exact gS rfl) rfl rfl (lists_fs (F := []) (n := N) (by omega) k hH2 (b := []) (.nil 0) (fun _ => rfl) .nil (fun x hx => by cases hx) (by simp; omega)) ?_
  rintro lv H3 ⟨vs, Mo, Mi, n3, hO, _, hR, hn3, hH3⟩
  replace hH3 : hasH (Mo ++ (Mi ++ M)) n3 H3 := hH3
  have hSv := hO.sl (Mi ++ M)
  have hS3 := hS.mono (M' := Mo ++ (Mi ++ M)) fun p hp => List.mem_append_right _ (List.mem_append_right _ hp)
  have hvl := hR.1
  have h256 : vs.length ≤ 256 := by
    rw [hvl]
    exact Nat.le_trans (lists_len .nil (fun x hx => by cases hx)) (Nat.pow_le_pow_right (n := 2) (by omega) (show N ≤ 8 by omega))
  repeat' (first | refine zP ?_ | refine zA ?_ | (refine zM ?_; intro _ _) | refine zX ?_ | (refine zC ?_; intro _ _ _ _) | (refine zS ?_; intro _ _) | (apply Ws <;> intro hg))
  refine WC.loopX [(0, _), (1, _), (7, _), (8, _)] (fun s : Nat × Nat => [(9, .int .i64 (s.1 : Int))]) [] (fun s H' => s.1 ≤ vs.length ∧ n1 ≤ s.2 ∧ hasH (Mo ++ (Mi ++ M)) s.2 H' ∧ ∀ j, j < s.1 → wornP N ns (maskN ((listsL N k []).getD j [])) = false) (fun s => vs.length - s.1) (0, n3) (by repeat' (first | exact .nil | refine .cons rfl ?_)) rfl ⟨Nat.zero_le _, hn3, hH3, fun x h => absurd h (Nat.not_lt_zero _)⟩ ?_
  clear hH3
  rintro ⟨i, n4⟩ H4 ⟨hi, hn4, hH4, hno⟩
  simp only at hi hn4 hH4 hno
  dsimp only [List.cons_append, List.nil_append]
  repeat' (first | refine zP ?_ | refine zA ?_ | (refine zM ?_; intro _ _) | refine zX ?_ | (refine zC ?_; intro _ _ _ _) | (refine zS ?_; intro _ _) | (apply Ws <;> intro hg))
  refine WC.condP rfl (fun hlt => ?_) (fun hlt => ?_)
  · have hi' : i < vs.length := by omega
    have hSi := hR.2 i (by omega)
    have hSi4 := hSi.mono (M' := Mo ++ (Mi ++ M)) fun p hp => List.mem_append_right _ hp
    have hil : i < (listsL N k []).length := by omega
    have hls : ((listsL N k []).getD i []).length ≤ 1000 ∧ ∀ x ∈ (listsL N k []).getD i [], x < 6 := by
      obtain ⟨s, _, h1, h⟩ := lists_bits.1 (getD_mem (a := []) hil)
      exact ⟨by omega, fun x hx => by rw [h1] at hx; have := (mem_bits.1 hx).1; omega⟩
    repeat' (first | refine zP ?_ | refine zA ?_ | (refine zM ?_; intro _ _) | refine zX ?_ | (refine zC ?_; intro _ _ _ _) | (refine zS ?_; intro _ _) | (apply Ws <;> intro hg))
    refine WR.call (by first | exact gN | exact gS rfl) rfl rfl (plain_fs hH4 hS3 (by omega) hb64 hSi4 hls.1 hls.2) ?_
    rintro wv H5 ⟨Mx, n5, hOw, hn5, hH5⟩
    refine WR.call (by first | exact gN | exact gS rfl) rfl rfl (rhonest_fs hH5 (hOw.sl (Mo ++ (Mi ++ M))) (by simp [wearL]; omega) (lt_62 hN (wear_lt hb)) (by omega)) ?_
    rintro _ H6 ⟨rfl, rfl⟩
    have hH7 := hH5.sub (List.sublist_append_right Mx (Mo ++ (Mi ++ M)))
    cases hh : honB N (wearL ns (maskN ((listsL N k []).getD i []))) with
    | true =>
      repeat' (first | refine zP ?_ | refine zA ?_ | (refine zM ?_; intro _ _) | refine zX ?_ | (refine zC ?_; intro _ _ _ _) | (refine zS ?_; intro _ _) | (apply Ws <;> intro hg))
      exact Ends.ret2 rfl rfl ⟨_, _, Mi, n5, rfl, least_found hk hil hno hh, hSi, by omega, hH7.sub (List.sublist_append_right Mo (Mi ++ M))⟩
    | false =>
      repeat' (first | refine zP ?_ | refine zA ?_ | (refine zM ?_; intro _ _) | refine zX ?_ | (refine zC ?_; intro _ _ _ _) | (refine zS ?_; intro _ _) | (apply Ws <;> intro hg))
      refine Ends.loop (i + 1, n5) (by show vs.length - (i + 1) < vs.length - i; omega) (by repeat' (first | exact .nil | refine .cons rfl ?_)) rfl ⟨hi', by simp only; omega, hH7, fun j hj => ?_⟩
      replace hj : j < i + 1 := hj
      rcases Nat.lt_or_ge j i with h | h
      · exact hno j h
      · have : j = i := by omega
        subst this; exact hh
  · repeat' (first | refine zP ?_ | refine zA ?_ | (refine zM ?_; intro _ _) | refine zX ?_ | (refine zC ?_; intro _ _ _ _) | (refine zS ?_; intro _ _) | (apply Ws <;> intro hg))
    exact Ends.loop (k + 1, n4) (by show N + 1 - (k + 1) < N + 1 - k; omega) (by repeat' (first | exact .nil | refine .cons rfl ?_)) rfl ⟨by simp only; omega, hH4.sub ((List.sublist_append_right Mi M).trans (List.sublist_append_right Mo (Mi ++ M))), least_next hk fun j hj => hno j (by omega)⟩
end
section
variable {M : HL} {n0 : Nat} {H : Heap} {v : Value} {xs : List Int} {m : Int}
theorem ForgedE_fs (hH : hasH M n0 H) (hS : Sl M 1 v (ints xs)) (hl : xs.length ≤ 1000) (h0 : castsE m xs ≠ 0) :
    FS C 30 [.int .i64 m, v] H (fun e H' => e = .tuple #[.slice none 0 0, .int .i64 (castsE m xs)] ∧ ∃ n', n0 ≤ n' ∧ hasH M n' H') := by
  obtain ⟨av, cv, hv⟩ := hS.len
  subst hv
  refine FS.intro (pf := pf30) rfl rfl rfl ?_
  repeat' (first | refine zP ?_ | refine zA ?_ | (refine zM ?_; intro _ _) | refine zX ?_ | (refine zC ?_; intro _ _ _ _) | (refine zS ?_; intro _ _) | (apply Ws <;> intro hg))
  rename_i Ha hHa Hb hHb
  refine WR.call (by first | exact gN | exact gS rfl) rfl rfl (Check_fs hHb ((hS.cons).cons) hl _) ?_
  rintro _ H1 ⟨rfl, rfl⟩
  repeat' (first | refine zP ?_ | refine zA ?_ | (refine zM ?_; intro _ _) | refine zX ?_ | (refine zC ?_; intro _ _ _ _) | (refine zS ?_; intro _ _) | refine zO ?_ | (apply Ws <;> intro hg))
  exact Ends.ret2 rfl rfl ⟨rfl, n0 + 2, by omega, hHb.tail.tail⟩
theorem WornE_fs (hH : hasH M n0 H) (hS : Sl M 1 v (ints xs)) (hl : xs.length ≤ 1000) (h0 : castsE m xs ≠ 0) :
    FS C 32 [.int .i64 m, v] H (fun e H' => e = .tuple #[.slice none 0 0, .int .i64 (castsE m xs)] ∧ ∃ n', n0 ≤ n' ∧ hasH M n' H') := by
  obtain ⟨av, cv, hv⟩ := hS.len
  subst hv
  refine FS.intro (pf := pf32) rfl rfl rfl ?_
  repeat' (first | refine zP ?_ | refine zA ?_ | (refine zM ?_; intro _ _) | refine zX ?_ | (refine zC ?_; intro _ _ _ _) | (refine zS ?_; intro _ _) | (apply Ws <;> intro hg))
  rename_i Ha hHa Hb hHb
  refine WR.call (by first | exact gN | exact gS rfl) rfl rfl (Check_fs hHb ((hS.cons).cons) hl _) ?_
  rintro _ H1 ⟨rfl, rfl⟩
  repeat' (first | refine zP ?_ | refine zA ?_ | (refine zM ?_; intro _ _) | refine zX ?_ | (refine zC ?_; intro _ _ _ _) | (refine zS ?_; intro _ _) | refine zO ?_ | (apply Ws <;> intro hg))
  exact Ends.ret2 rfl rfl ⟨rfl, n0 + 2, by omega, hHb.tail.tail⟩
theorem ModelE_fs (hH : hasH M n0 H) (hS : Sl M 1 v (ints xs)) (hl : xs.length ≤ 1000) (h0 : castsE m xs ≠ 0) :
    FS C 34 [.int .i64 m, v] H (fun e H' => e = .tuple #[.int .i64 0, .int .i64 (castsE m xs)] ∧ H' = H) := by
  refine FS.intro (pf := pf34) rfl rfl rfl ?_
  repeat' (first | refine zP ?_ | refine zA ?_ | (refine zM ?_; intro _ _) | refine zX ?_ | (refine zC ?_; intro _ _ _ _) | (refine zS ?_; intro _ _) | (apply Ws <;> intro hg))
  refine WR.call (by first | exact gN | exact gS rfl) rfl rfl (Check_fs hH hS hl _) ?_
  rintro _ H1 ⟨rfl, rfl⟩
  repeat' (first | refine zP ?_ | refine zA ?_ | (refine zM ?_; intro _ _) | refine zX ?_ | (refine zC ?_; intro _ _ _ _) | (refine zS ?_; intro _ _) | refine zO ?_ | (apply Ws <;> intro hg))
  exact Ends.ret2 rfl rfl ⟨rfl, rfl⟩
theorem rForgedE_fs (hH : hasH M n0 H) (hS : Sl M 1 v (ints xs)) (hl : xs.length ≤ 1000) (h0 : castsE m xs ≠ 0) :
    FS C 31 [.int .i64 m, v] H (fun e H' => e = .tuple #[.slice none 0 0, .int .i64 (castsE m xs)] ∧ H' = H) := by
  refine FS.intro (pf := pf31) rfl rfl rfl ?_
  repeat' (first | refine zP ?_ | refine zA ?_ | (refine zM ?_; intro _ _) | refine zX ?_ | (refine zC ?_; intro _ _ _ _) | (refine zS ?_; intro _ _) | (apply Ws <;> intro hg))
  refine WR.call (by first | exact gN | exact gS rfl) rfl rfl (rCheck_fs hH hS hl _) ?_
  rintro _ H1 ⟨rfl, rfl⟩
  repeat' (first | refine zP ?_ | refine zA ?_ | (refine zM ?_; intro _ _) | refine zX ?_ | (refine zC ?_; intro _ _ _ _) | (refine zS ?_; intro _ _) | refine zO ?_ | (apply Ws <;> intro hg))
  exact Ends.ret2 rfl rfl ⟨rfl, rfl⟩
theorem rWornE_fs (hH : hasH M n0 H) (hS : Sl M 1 v (ints xs)) (hl : xs.length ≤ 1000) (h0 : castsE m xs ≠ 0) :
    FS C 33 [.int .i64 m, v] H (fun e H' => e = .tuple #[.slice none 0 0, .int .i64 (castsE m xs)] ∧ H' = H) := by
  refine FS.intro (pf := pf33) rfl rfl rfl ?_
  repeat' (first | refine zP ?_ | refine zA ?_ | (refine zM ?_; intro _ _) | refine zX ?_ | (refine zC ?_; intro _ _ _ _) | (refine zS ?_; intro _ _) | (apply Ws <;> intro hg))
  refine WR.call (by first | exact gN | exact gS rfl) rfl rfl (rCheck_fs hH hS hl _) ?_
  rintro _ H1 ⟨rfl, rfl⟩
  repeat' (first | refine zP ?_ | refine zA ?_ | (refine zM ?_; intro _ _) | refine zX ?_ | (refine zC ?_; intro _ _ _ _) | (refine zS ?_; intro _ _) | refine zO ?_ | (apply Ws <;> intro hg))
  exact Ends.ret2 rfl rfl ⟨rfl, rfl⟩
theorem rModelE_fs (hH : hasH M n0 H) (hS : Sl M 1 v (ints xs)) (hl : xs.length ≤ 1000) (h0 : castsE m xs ≠ 0) :
    FS C 35 [.int .i64 m, v] H (fun e H' => e = .tuple #[.int .i64 0, .int .i64 (castsE m xs)] ∧ H' = H) := by
  refine FS.intro (pf := pf35) rfl rfl rfl ?_
  repeat' (first | refine zP ?_ | refine zA ?_ | (refine zM ?_; intro _ _) | refine zX ?_ | (refine zC ?_; intro _ _ _ _) | (refine zS ?_; intro _ _) | (apply Ws <;> intro hg))
  refine WR.call (by first | exact gN | exact gS rfl) rfl rfl (rCheck_fs hH hS hl _) ?_
  rintro _ H1 ⟨rfl, rfl⟩
  repeat' (first | refine zP ?_ | refine zA ?_ | (refine zM ?_; intro _ _) | refine zX ?_ | (refine zC ?_; intro _ _ _ _) | (refine zS ?_; intro _ _) | refine zO ?_ | (apply Ws <;> intro hg))
  exact Ends.ret2 rfl rfl ⟨rfl, rfl⟩

set_option maxHeartbeats 2000000 in
theorem MouldForged_fs (hH : hasH M n0 H) (hS : Sl M 1 v (ints xs)) :
    FS C 5 [.int .i64 m, v] H (fun e H' => e = .bool true) := by
  refine FS.intro (pf := pf5) rfl rfl rfl ?_
  repeat' (first | refine zP ?_ | refine zA ?_ | (refine zM ?_; intro _ _) | refine zX ?_ | (refine zC ?_; intro _ _ _ _) | (refine zS ?_; intro _ _) | (apply Ws <;> intro hg))
  refine WC.condP rfl (fun hlen => ?_) (fun hlen => ?_)
  · repeat' (first | refine zP ?_ | refine zA ?_ | (refine zM ?_; intro _ _) | refine zX ?_ | (refine zC ?_; intro _ _ _ _) | (refine zS ?_; intro _ _) | (apply Ws <;> intro hg))
    refine WR.call (by first | exact gN | exact gS rfl) rfl rfl (FS.works (C := C) (R := fun v H' => v = .bool true) rfl) ?_
    rintro _ _ rfl
    repeat' (first | refine zP ?_ | refine zA ?_ | (refine zM ?_; intro _ _) | refine zX ?_ | (refine zC ?_; intro _ _ _ _) | (refine zS ?_; intro _ _) | (apply Ws <;> intro hg))
    exact Ends.ret1 rfl rfl
  have hl : xs.length ≤ 1000 := by omega
  by_cases h0 : castsE m xs = 0
  · obtain ⟨N, ns, rfl, h1, h2, rfl, h3, h4⟩ := casts_ok h0
    rw [← nodesI] at hS
    repeat' (first | refine zP ?_ | refine zA ?_ | (refine zM ?_; intro _ _) | refine zX ?_ | (refine zC ?_; intro _ _ _ _) | (refine zS ?_; intro _ _) | (apply Ws <;> intro hg))
    refine WR.call (by first | exact gN | exact gS rfl) rfl rfl (Forged_fs hH hS h3 h1 h2 h4) ?_
    rintro _ H1 ⟨r1, u1, M1, n1, rfl, hr1, hO1, hn1, hH1⟩
    have hS1 := hS.mono (M' := M1 ++ M) fun p hp => List.mem_append_right _ hp
    repeat' (first | refine zP ?_ | refine zA ?_ | (refine zM ?_; intro _ _) | refine zX ?_ | (refine zC ?_; intro _ _ _ _) | (refine zS ?_; intro _ _) | (apply Ws <;> intro hg))
    refine WR.call (by first | exact gN | exact gS rfl) rfl rfl (rForged_fs hH1 hS1 h3 h1 h2 h4) ?_
    rintro _ H2 ⟨r2, u2, M2, n2, rfl, hr2, hU2, hn2, hH2⟩
    have hS2 := hS1.mono (M' := M2 ++ (M1 ++ M)) fun p hp => List.mem_append_right _ hp
    repeat' (first | refine zP ?_ | refine zA ?_ | (refine zM ?_; intro _ _) | refine zX ?_ | (refine zC ?_; intro _ _ _ _) | (refine zS ?_; intro _ _) | (apply Ws <;> intro hg))
    refine WR.call (by first | exact gN | exact gS rfl) rfl rfl (Worn_fs hH2 hS2 h3 h1 h2 h4) ?_
    rintro _ H3 ⟨r3, u3, M3, n3, rfl, hr3, hO3, hn3, hH3⟩
    have hS3 := hS2.mono (M' := M3 ++ (M2 ++ (M1 ++ M))) fun p hp => List.mem_append_right _ hp
    repeat' (first | refine zP ?_ | refine zA ?_ | (refine zM ?_; intro _ _) | refine zX ?_ | (refine zC ?_; intro _ _ _ _) | (refine zS ?_; intro _ _) | (apply Ws <;> intro hg))
    refine WR.call (by first | exact gN | exact gS rfl) rfl rfl (rWorn_fs hH3 hS3 h3 h1 h2 h4) ?_
    rintro _ H4 ⟨r4, u4, M4, n4, rfl, hr4, hU4, hn4, hH4⟩
    have hS4 := hS3.mono (M' := M4 ++ (M3 ++ (M2 ++ (M1 ++ M)))) fun p hp => List.mem_append_right _ hp
    repeat' (first | refine zP ?_ | refine zA ?_ | (refine zM ?_; intro _ _) | refine zX ?_ | (refine zC ?_; intro _ _ _ _) | (refine zS ?_; intro _ _) | (apply Ws <;> intro hg))
    refine WR.call (by first | exact gN | exact gS rfl) rfl rfl (Model_fs hH4 hS4 h3 h1 h2 h4) ?_
    rintro _ H5 ⟨k5, f5, rfl, ⟨q5, hq5, hk5, hf5⟩, n5, hn5, hH5⟩
    repeat' (first | refine zP ?_ | refine zA ?_ | (refine zM ?_; intro _ _) | refine zX ?_ | (refine zC ?_; intro _ _ _ _) | (refine zS ?_; intro _ _) | (apply Ws <;> intro hg))
    refine WR.call (by first | exact gN | exact gS rfl) rfl rfl (rModel_fs hH5 hS4 h3 h1 h2 h4) ?_
    rintro _ H6 ⟨k6, f6, rfl, ⟨q6, hq6, hk6, hf6⟩, n6, hn6, hH6⟩
    obtain rfl := hr1.unique hr2
    obtain rfl := hr3.unique hr4
    obtain rfl := hq5.unique hq6
    have hk : k5 = k6 := by rw [hk5, hk6]
    have hf : f5 = f6 := by rw [hf5, hf6]
    subst hk
    subst hf
    have hU1 := (hO1.sl M).mono (M' := M4 ++ (M3 ++ (M2 ++ (M1 ++ M)))) fun p hp => List.mem_append_right _ (List.mem_append_right _ (List.mem_append_right _ hp))
    have hU2' := hU2.mono (M' := M4 ++ (M3 ++ (M2 ++ (M1 ++ M)))) fun p hp => List.mem_append_right _ (List.mem_append_right _ hp)
    have hU3 := (hO3.sl (M2 ++ (M1 ++ M))).mono (M' := M4 ++ (M3 ++ (M2 ++ (M1 ++ M)))) fun p hp => List.mem_append_right _ hp
    have hl1 : r1.length ≤ 8 := by obtain ⟨s, _, _, rfl, _⟩ := hr1; exact Nat.le_trans (bits_len _ _) h3
    have hl3 : r3.length ≤ 8 := by obtain ⟨s, _, _, rfl, _⟩ := hr3; exact Nat.le_trans (bits_len _ _) (by omega)
    clear hH hH1 hH2 hH3 hH4 hH5
    repeat' (first | refine zP ?_ | refine zA ?_ | (refine zM ?_; intro _ _) | refine zX ?_ | (refine zC ?_; intro _ _ _ _) | (refine zS ?_; intro _ _) | (apply Ws <;> intro hg))
    refine WR.call (by first | exact gN | exact gS rfl) rfl rfl (same_fs hH6 hU1 hU2' (by omega) (by omega)) ?_
    rintro _ H7 ⟨rfl, rfl⟩
    rw [decide_eq_true rfl]
    repeat' (first | refine zP ?_ | refine zA ?_ | (refine zM ?_; intro _ _) | refine zX ?_ | (refine zC ?_; intro _ _ _ _) | (refine zS ?_; intro _ _) | refine zO ?_ | (apply Ws <;> intro hg))
    refine WR.call (by first | exact gN | exact gS rfl) rfl rfl (same_fs hH6 hU3 hU4 (by omega) (by omega)) ?_
    rintro _ H8 ⟨rfl, rfl⟩
    rw [decide_eq_true rfl]
    repeat' (first | refine zP ?_ | refine zA ?_ | (refine zM ?_; intro _ _) | refine zX ?_ | (refine zC ?_; intro _ _ _ _) | (refine zS ?_; intro _ _) | refine zO ?_ | (apply Ws <;> intro hg))
    refine WR.call (by first | exact gN | exact gS rfl) rfl rfl (FS.works (C := C) (R := fun v H' => v = .bool true) rfl) ?_
    rintro _ _ rfl
    repeat' (first | refine zP ?_ | refine zA ?_ | (refine zM ?_; intro _ _) | refine zX ?_ | (refine zC ?_; intro _ _ _ _) | (refine zS ?_; intro _ _) | (apply Ws <;> intro hg))
    exact Ends.ret1 rfl rfl
  · repeat' (first | refine zP ?_ | refine zA ?_ | (refine zM ?_; intro _ _) | refine zX ?_ | (refine zC ?_; intro _ _ _ _) | (refine zS ?_; intro _ _) | (apply Ws <;> intro hg))
    refine WR.call (by first | exact gN | exact gS rfl) rfl rfl (ForgedE_fs hH hS hl h0) ?_
    rintro _ H1 ⟨rfl, n1, hn1, hH1⟩
    repeat' (first | refine zP ?_ | refine zA ?_ | (refine zM ?_; intro _ _) | refine zX ?_ | (refine zC ?_; intro _ _ _ _) | (refine zS ?_; intro _ _) | (apply Ws <;> intro hg))
    refine WR.call (by first | exact gN | exact gS rfl) rfl rfl (rForgedE_fs hH1 hS hl h0) ?_
    rintro _ H2 ⟨rfl, rfl⟩
    repeat' (first | refine zP ?_ | refine zA ?_ | (refine zM ?_; intro _ _) | refine zX ?_ | (refine zC ?_; intro _ _ _ _) | (refine zS ?_; intro _ _) | (apply Ws <;> intro hg))
    refine WR.call (by first | exact gN | exact gS rfl) rfl rfl (WornE_fs hH1 hS hl h0) ?_
    rintro _ H3 ⟨rfl, n3, hn3, hH3⟩
    repeat' (first | refine zP ?_ | refine zA ?_ | (refine zM ?_; intro _ _) | refine zX ?_ | (refine zC ?_; intro _ _ _ _) | (refine zS ?_; intro _ _) | (apply Ws <;> intro hg))
    refine WR.call (by first | exact gN | exact gS rfl) rfl rfl (rWornE_fs hH3 hS hl h0) ?_
    rintro _ H4 ⟨rfl, rfl⟩
    repeat' (first | refine zP ?_ | refine zA ?_ | (refine zM ?_; intro _ _) | refine zX ?_ | (refine zC ?_; intro _ _ _ _) | (refine zS ?_; intro _ _) | (apply Ws <;> intro hg))
    refine WR.call (by first | exact gN | exact gS rfl) rfl rfl (ModelE_fs hH3 hS hl h0) ?_
    rintro _ H5 ⟨rfl, rfl⟩
    repeat' (first | refine zP ?_ | refine zA ?_ | (refine zM ?_; intro _ _) | refine zX ?_ | (refine zC ?_; intro _ _ _ _) | (refine zS ?_; intro _ _) | (apply Ws <;> intro hg))
    refine WR.call (by first | exact gN | exact gS rfl) rfl rfl (rModelE_fs hH3 hS hl h0) ?_
    rintro _ H6 ⟨rfl, rfl⟩
    repeat' (first | refine zP ?_ | refine zA ?_ | (refine zM ?_; intro _ _) | refine zX ?_ | (refine zC ?_; intro _ _ _ _) | (refine zS ?_; intro _ _) | (apply Ws <;> intro hg))
    refine WR.call (by first | exact gN | exact gS rfl) rfl rfl (same_fs hH3 (xs := []) (ys := []) (.nil 0) (.nil 0) (by simp) (by simp)) ?_
    rintro _ H7 ⟨rfl, rfl⟩
    rw [decide_eq_true rfl]
    repeat' (first | refine zP ?_ | refine zA ?_ | (refine zM ?_; intro _ _) | refine zX ?_ | (refine zC ?_; intro _ _ _ _) | (refine zS ?_; intro _ _) | refine zO ?_ | (apply Ws <;> intro hg))
    refine WR.call (by first | exact gN | exact gS rfl) rfl rfl (same_fs hH3 (xs := []) (ys := []) (.nil 0) (.nil 0) (by simp) (by simp)) ?_
    rintro _ H8 ⟨rfl, rfl⟩
    rw [decide_eq_true rfl]
    repeat' (first | refine zP ?_ | refine zA ?_ | (refine zM ?_; intro _ _) | refine zX ?_ | (refine zC ?_; intro _ _ _ _) | (refine zS ?_; intro _ _) | refine zO ?_ | (apply Ws <;> intro hg))
    refine WR.call (by first | exact gN | exact gS rfl) rfl rfl (FS.works (C := C) (R := fun v H' => v = .bool true) rfl) ?_
    rintro _ _ rfl
    repeat' (first | refine zP ?_ | refine zA ?_ | (refine zM ?_; intro _ _) | refine zX ?_ | (refine zC ?_; intro _ _ _ _) | (refine zS ?_; intro _ _) | (apply Ws <;> intro hg))
    exact Ends.ret1 rfl rfl
end
end Go.Proofs.Ytblopbimchkneaa.Md
