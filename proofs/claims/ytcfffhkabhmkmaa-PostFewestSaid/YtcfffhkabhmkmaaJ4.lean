/- Texts of the law, joined. -/
import Derived.Test.YtcfffhkabhmkmaaJ3
/- Places in so many lists; what the package's other functions return. -/
namespace Go.Proofs.Ytcfffhkabhmkmaa.Ps
open Go Go.Abs Go.Mth
set_option linter.unusedVariables false
set_option linter.unusedSimpArgs false
theorem nodes_snoc (l : List Nat) (x : Nat) : nodes (l ++ [x]) = nodes l ++ [.int .i64 (x : Int)] := by simp [nodes]
structure KO where
  k : Nat
  v : Value
  Mx : HL
  n : Nat
attribute [local irreducible] gOK WS WC WR WD Ends FS YS OpV seqK blockK loopK midK retK rdK asgK rangeEnd sat Cell
section
variable {M : HL} {n0 : Nat} {H : Heap} {v w : Value}
theorem fewB_len10 {xs : List Int} {c : List Nat → Int} {zs : List (List Nat)} (hz : ∀ z ∈ zs, AscN xs.length z) (h : xs.length ≤ 10) : ∀ z ∈ (bestF c zs).1, AscN xs.length z ∧ z.length ≤ 1000 := by
  have key : ∀ (ys : List (List Nat)) (s : List (List Nat) × Int), (∀ z ∈ ys, AscN xs.length z) → (∀ z ∈ s.1, AscN xs.length z) → ∀ z ∈ (ys.foldl (bestS c) s).1, AscN xs.length z := by
    intro ys
    induction ys with
    | nil => intro s _ h2; exact h2
    | cons y ys ih =>
      intro s h1 h2
      rw [List.foldl_cons]
      refine ih _ (fun z hz => h1 z (by simp [hz])) ?_
      intro z hz
      have hy := h1 y (by simp)
      unfold bestS at hz
      split at hz
      · rw [List.mem_singleton] at hz; rw [hz]; exact hy
      · split at hz
        · rcases List.mem_append.1 hz with hz | hz
          · exact h2 z hz
          · rw [List.mem_singleton] at hz; rw [hz]; exact hy
        · exact h2 z hz
  intro z hz2
  have h1 := key zs ([], 0) hz (by simp) z hz2
  exact ⟨h1, by have := h1.len; omega⟩
theorem grdL_asc {xs : List Int} : ∀ z ∈ grdL xs, AscN xs.length z := fun z hz => mem_allA.1 (List.mem_filter.1 hz).1
theorem aptL_asc {xs : List Int} : ∀ z ∈ aptL xs, AscN xs.length z := fun z hz => mem_allA.1 (List.mem_filter.1 hz).1
theorem Apart_fs (hH : hasH M n0 H) {xs : List Int} (hS : Sl M 1 v (ints xs)) (hl : xs.length ≤ 100000) :
    FS C 20 [v] H (fun e H' => ∃ u M2 n', e = .tuple #[u, .int .i64 (errS xs)] ∧ Sl (M2 ++ M) 1 u (nodes (if errS xs = 0 then (aptB xs).getD 0 [] else [])) ∧ n0 ≤ n' ∧ hasH (M2 ++ M) n' H') := by
  refine FS.intro (pf := pf20) rfl rfl rfl ?_
  repeat' (first | refine zP ?_ | refine zA ?_ | (refine zM ?_; intro _ _) | refine zX ?_ | (refine zC ?_; intro _ _ _ _) | (refine zS ?_; intro _ _) | (apply Ws <;> intro hg))
  refine WR.call (by first | exact gN | exact gS rfl) rfl rfl (Check_fs hH hS hl) ?_
  rintro _ H1 ⟨rfl, rfl⟩
  repeat' (first | refine zP ?_ | refine zA ?_ | (refine zM ?_; intro _ _) | refine zX ?_ | (refine zC ?_; intro _ _ _ _) | (refine zS ?_; intro _ _) | (apply Ws <;> intro hg))
  refine WC.condP rfl (fun h0 => ?_) (fun h0 => ?_)
  · repeat' (first | refine zP ?_ | refine zA ?_ | (refine zM ?_; intro _ _) | refine zX ?_ | (refine zC ?_; intro _ _ _ _) | (refine zS ?_; intro _ _) | (apply Ws <;> intro hg))
    exact Ends.ret2 rfl rfl ⟨_, [], n0, rfl, by rw [if_neg h0]; exact .nil 0, Nat.le_refl _, hH⟩
  · have h00 : errS xs = 0 := by omega
    have hx := errS_zero.1 h00
    repeat' (first | refine zP ?_ | refine zA ?_ | (refine zM ?_; intro _ _) | refine zX ?_ | (refine zC ?_; intro _ _ _ _) | (refine zS ?_; intro _ _) | (apply Ws <;> intro hg))
    refine WR.call (by first | exact gN | exact gS rfl) rfl rfl (byDistance_fs hH hS hx) ?_
    rintro _ H2 ⟨hv, M2, n2, rfl, hV, hn2, hH2⟩
    refine WR.call (by first | exact gN | exact gS rfl) rfl rfl (best_fs (B := M2) hx.one hx.most hH2 (fun p hp => List.mem_append_left _ hp) (good_apt hx hV) (cost_neg _ _) (fun x _ => by omega) (allA_few hx.most)) ?_
    rintro e3 H3 ⟨ws, M3, n3, hSe, hR, hn3, hH3⟩
    have hne := List.length_pos_iff.2 (aptB_ne xs)
    have hwl := hR.1
    have hR0 := hR.2 0 hne
    have hws : 0 < ws.length := by rw [hwl]; exact hne
    repeat' (first | refine zP ?_ | refine zA ?_ | (refine zM ?_; intro _ _) | refine zX ?_ | (refine zC ?_; intro _ _ _ _) | (refine zS ?_; intro _ _) | (apply Ws <;> intro hg))
    refine Ends.ret2 rfl rfl ⟨_, M3 ++ M2, n3, by rw [h00], ?_, by omega, by rw [List.append_assoc]; exact hH3⟩
    rw [if_pos h00, List.append_assoc]; exact hR0
end
end Go.Proofs.Ytcfffhkabhmkmaa.Ps

/- Count, Cheapest, Guards, Proves, Hand. -/
namespace Go.Proofs.Ytcfffhkabhmkmaa.Ps
open Go Go.Abs Go.Mth
set_option linter.unusedVariables false
set_option linter.unusedSimpArgs false
theorem toNat_IL (l : List Nat) : (IL l).map Int.toNat = l := by
  refine List.ext_getElem (by simp [IL]) fun i h1 h2 => by simp [IL]
attribute [local irreducible] gOK WS WC WR WD Ends FS YS OpV seqK blockK loopK midK retK rdK asgK rangeEnd sat Cell
section
variable {M : HL} {n0 : Nat} {H : Heap} {v w : Value}
theorem Cheapest_fs (hH : hasH M n0 H) {xs ps : List Int} (hS : Sl M 1 v (ints xs)) (hl : xs.length ≤ 100000) (hU : Sl M 1 w (ints ps)) (hpl : ps.length ≤ 100000) :
    FS C 22 [v, w] H (fun e H' => ∃ u M2 n', e = .tuple #[u, .int .i64 (errR xs ps)] ∧ Sl (M2 ++ M) 1 u (nodes (if errR xs ps = 0 then (prcB xs ps).getD 0 [] else [])) ∧ n0 ≤ n' ∧ hasH (M2 ++ M) n' H') := by
  have hw := hU.one_
  have hv := hS.one_
  refine FS.intro (pf := pf22) rfl rfl rfl ?_
  repeat' (first | refine zP ?_ | refine zA ?_ | (refine zM ?_; intro _ _) | refine zX ?_ | (refine zC ?_; intro _ _ _ _) | (refine zS ?_; intro _ _) | (apply Ws <;> intro hg))
  refine WR.call (by first | exact gN | exact gS rfl) rfl rfl (Check_fs hH hS hl) ?_
  rintro _ H1 ⟨rfl, rfl⟩
  repeat' (first | refine zP ?_ | refine zA ?_ | (refine zM ?_; intro _ _) | refine zX ?_ | (refine zC ?_; intro _ _ _ _) | (refine zS ?_; intro _ _) | (apply Ws <;> intro hg))
  refine WC.condP rfl (fun h0 => ?_) (fun h0 => ?_)
  · have hE : errR xs ps = errS xs := by unfold errR; rw [if_pos h0]
    repeat' (first | refine zP ?_ | refine zA ?_ | (refine zM ?_; intro _ _) | refine zX ?_ | (refine zC ?_; intro _ _ _ _) | (refine zS ?_; intro _ _) | (apply Ws <;> intro hg))
    exact Ends.ret2 rfl rfl ⟨_, [], n0, by rw [hE], by rw [hE, if_neg h0]; exact .nil 0, Nat.le_refl _, hH⟩
  · have h00 : errS xs = 0 := by omega
    have hx := errS_zero.1 h00
    have h10 := hx.most
    repeat' (first | refine zP ?_ | refine zA ?_ | (refine zM ?_; intro _ _) | refine zX ?_ | (refine zC ?_; intro _ _ _ _) | (refine zS ?_; intro _ _) | (apply Ws <;> intro hg))
    refine WC.condP rfl (fun hle => ?_) (fun hle => ?_)
    · have hE : errR xs ps = 5 := by unfold errR; rw [if_neg h0, if_pos (by omega)]
      repeat' (first | refine zP ?_ | refine zA ?_ | (refine zM ?_; intro _ _) | refine zX ?_ | (refine zC ?_; intro _ _ _ _) | (refine zS ?_; intro _ _) | (apply Ws <;> intro hg))
      exact Ends.ret2 rfl rfl ⟨_, [], n0, by rw [hE], by rw [hE, if_neg (by decide)]; exact .nil 0, Nat.le_refl _, hH⟩
    · have hlen : ps.length = xs.length := by omega
      have hER : errR xs ps = firstE (errC ps) ps.length := by unfold errR; rw [if_neg h0, if_neg (by omega)]
      repeat' (first | refine zP ?_ | refine zA ?_ | (refine zM ?_; intro _ _) | refine zX ?_ | (refine zC ?_; intro _ _ _ _) | (refine zS ?_; intro _ _) | (apply Ws <;> intro hg))
      refine WC.loopX [(0, v), (1, w), (19, w), (20, _)] (fun k : Nat => [(21, .int .i64 (k : Int))]) [] (fun k H' => H' = H1 ∧ k ≤ ps.length ∧ firstE (errC ps) k = 0) (fun k => ps.length - k) 0 (by repeat' (first | exact .nil | refine .cons rfl ?_)) rfl ⟨rfl, Nat.zero_le _, rfl⟩ ?_
      rintro k H' ⟨rfl, hk, hz⟩
      dsimp only [List.cons_append, List.nil_append]
      repeat' (first | refine zP ?_ | refine zA ?_ | (refine zM ?_; intro _ _) | refine zX ?_ | (refine zC ?_; intro _ _ _ _) | (refine zS ?_; intro _ _) | (apply Ws <;> intro hg))
      refine WC.condP rfl (fun hlt => ?_) (fun hlt => ?_)
      · have hk' : k < ps.length := by omega
        repeat' (first | refine zP ?_ | refine zA ?_ | (refine zM ?_; intro _ _) | refine zX ?_ | (refine zC ?_; intro _ _ _ _) | (refine zS ?_; intro _ _) | (apply Ws <;> intro hg))
        · have hE : errC ps k = 1 := by unfold errC; rw [if_pos (by omega)]
          rw [firstE_at hz (by rw [hE]; decide) hk', hE] at hER
          repeat' (first | refine zP ?_ | refine zA ?_ | (refine zM ?_; intro _ _) | refine zX ?_ | (refine zC ?_; intro _ _ _ _) | (refine zS ?_; intro _ _) | refine zO ?_ | (apply Ws <;> intro hg))
          exact Ends.ret2 rfl rfl ⟨_, [], n0, by rw [hER], by rw [hER, if_neg (by decide)]; exact .nil 0, Nat.le_refl _, hH⟩
        · refine WC.condP rfl (fun hgt => ?_) (fun hgt => ?_)
          · have hE : errC ps k = 1 := by unfold errC; rw [if_pos (by omega)]
            rw [firstE_at hz (by rw [hE]; decide) hk', hE] at hER
            repeat' (first | refine zP ?_ | refine zA ?_ | (refine zM ?_; intro _ _) | refine zX ?_ | (refine zC ?_; intro _ _ _ _) | (refine zS ?_; intro _ _) | refine zO ?_ | (apply Ws <;> intro hg))
            exact Ends.ret2 rfl rfl ⟨_, [], n0, by rw [hER], by rw [hER, if_neg (by decide)]; exact .nil 0, Nat.le_refl _, hH⟩
          · repeat' (first | refine zP ?_ | refine zA ?_ | (refine zM ?_; intro _ _) | refine zX ?_ | (refine zC ?_; intro _ _ _ _) | (refine zS ?_; intro _ _) | refine zO ?_ | (apply Ws <;> intro hg))
            refine Ends.loop (k + 1) (by omega) (by repeat' (first | exact .nil | refine .cons rfl ?_)) rfl ⟨rfl, hk', firstE_succ hz ?_⟩
            unfold errC; rw [if_neg (by omega)]
      · have hkn : k = ps.length := by omega
        subst hkn
        rw [hz] at hER
        have hp := (errR_zero.1 hER).2
        repeat' (first | refine zP ?_ | refine zA ?_ | (refine zM ?_; intro _ _) | refine zX ?_ | (refine zC ?_; intro _ _ _ _) | (refine zS ?_; intro _ _) | (apply Ws <;> intro hg))
        refine WR.call (by first | exact gN | exact gS rfl) rfl rfl (byPrice_fs hH hS hx hU) ?_
        rintro _ H2 ⟨hv2, b, M2, n2, rfl, hV, hmb, hn2, hH2⟩
        have hU2 := hU.mono fun q hq => List.mem_append_right M2 hq
        refine WR.call (by first | exact gN | exact gS rfl) rfl rfl (best_fs (B := M2 ++ M) hx.one hx.most hH2 (fun p hp => hp) (good_grd hx (hV.mono fun q hq => List.mem_append_left _ hq)) (cost_price (List.mem_append_left _ hmb) hU2 (by omega)) (fun x hxl => by have := hp.bd x (by omega); omega) (allA_few hx.most)) ?_
        rintro e3 H3 ⟨ws, M3, n3, hSe, hR, hn3, hH3⟩
        have hne := List.length_pos_iff.2 (prcB_ne xs ps)
        have hwl := hR.1
        have hR0 := hR.2 0 hne
        have hws : 0 < ws.length := by rw [hwl]; exact hne
        repeat' (first | refine zP ?_ | refine zA ?_ | (refine zM ?_; intro _ _) | refine zX ?_ | (refine zC ?_; intro _ _ _ _) | (refine zS ?_; intro _ _) | (apply Ws <;> intro hg))
        refine Ends.ret2 rfl rfl ⟨_, M3 ++ M2, n3, by rw [hER], ?_, by omega, by rw [List.append_assoc]; exact hH3⟩
        rw [if_pos hER, List.append_assoc]; exact hR0
end
end Go.Proofs.Ytcfffhkabhmkmaa.Ps

/- The reference: checks, what is at hand, what guards, what is apart. -/
namespace Go.Proofs.Ytcfffhkabhmkmaa.Ps
open Go Go.Abs Go.Mth
set_option linter.unusedVariables false
set_option linter.unusedSimpArgs false
def hndT (xs : List Int) (p k : Nat) : List Nat := (List.range k).filter (adj xs p)
theorem hndT_succ (xs : List Int) (p k : Nat) : hndT xs p (k + 1) = if adj xs p k = true then hndT xs p k ++ [k] else hndT xs p k := by
  unfold hndT
  rw [List.range_succ, List.filter_append]
  by_cases h : adj xs p k = true
  · rw [if_pos h, List.filter_cons_of_pos h]; simp
  · rw [if_neg h, List.filter_cons_of_neg h]; simp
theorem hndT_len (xs : List Int) (p k : Nat) : (hndT xs p k).length ≤ k := by
  have := List.length_filter_le (adj xs p) (List.range k)
  simpa [hndT] using this
theorem hndL_len (xs : List Int) (p : Nat) : (hndL xs p).length ≤ xs.length := hndT_len xs p xs.length
attribute [local irreducible] gOK WS WC WR WD Ends FS YS OpV seqK blockK loopK midK retK rdK asgK rangeEnd sat Cell
section
variable {M : HL} {n0 : Nat} {H : Heap} {v w : Value}
theorem in_fs (a lo hi : Int) (H : Heap) : FS C 42 [.int .i64 a, .int .i64 lo, .int .i64 hi] H (fun e H' => H' = H ∧ e = .bool (decide (lo ≤ a ∧ a ≤ hi))) := by
  refine FS.intro (pf := pf42) rfl rfl rfl ?_
  repeat' (first | refine zP ?_ | refine zA ?_ | (refine zM ?_; intro _ _) | refine zX ?_ | (refine zC ?_; intro _ _ _ _) | (refine zS ?_; intro _ _) | (apply Ws <;> intro hg))
  · exact Ends.ret1 rfl ⟨rfl, by congr 1; rw [decide_eq_decide]; omega⟩
  · exact Ends.ret1 rfl ⟨rfl, by rw [decide_eq_false (by omega)]⟩
theorem rCheck_fs (hH : hasH M n0 H) {xs : List Int} (hS : Sl M 1 v (ints xs)) (hx : xs.length ≤ 100000) :
    FS C 13 [v] H (fun e H' => H' = H ∧ e = .int .i64 (errS xs)) := by
  have hv := hS.one_
  refine FS.intro (pf := pf13) rfl rfl rfl ?_
  repeat' (first | refine zP ?_ | refine zA ?_ | (refine zM ?_; intro _ _) | refine zX ?_ | (refine zC ?_; intro _ _ _ _) | (refine zS ?_; intro _ _) | (apply Ws <;> intro hg))
  refine WC.condP rfl (fun h0 => ?_) (fun h0 => ?_)
  · repeat' (first | refine zP ?_ | refine zA ?_ | (refine zM ?_; intro _ _) | refine zX ?_ | (refine zC ?_; intro _ _ _ _) | (refine zS ?_; intro _ _) | (apply Ws <;> intro hg))
    refine Ends.ret1 rfl ⟨rfl, ?_⟩
    unfold errS; rw [if_pos (by omega)]
  · repeat' (first | refine zP ?_ | refine zA ?_ | (refine zM ?_; intro _ _) | refine zX ?_ | (refine zC ?_; intro _ _ _ _) | (refine zS ?_; intro _ _) | (apply Ws <;> intro hg))
    refine WC.condP rfl (fun h7 => ?_) (fun h7 => ?_)
    · repeat' (first | refine zP ?_ | refine zA ?_ | (refine zM ?_; intro _ _) | refine zX ?_ | (refine zC ?_; intro _ _ _ _) | (refine zS ?_; intro _ _) | (apply Ws <;> intro hg))
      refine Ends.ret1 rfl ⟨rfl, ?_⟩
      unfold errS; rw [if_neg (by omega), if_pos (by omega)]
    · repeat' (first | refine zP ?_ | refine zA ?_ | (refine zM ?_; intro _ _) | refine zX ?_ | (refine zC ?_; intro _ _ _ _) | (refine zS ?_; intro _ _) | (apply Ws <;> intro hg))
      refine WC.loopX [(0, v)] (fun k : Nat => [(3, .int .i64 (k : Int))]) [] (fun k H' => H' = H ∧ k ≤ xs.length ∧ firstE (errB xs) k = 0) (fun k => xs.length - k) 0 (by repeat' (first | exact .nil | refine .cons rfl ?_)) rfl ⟨rfl, Nat.zero_le _, rfl⟩ ?_
      rintro k H' ⟨rfl, hk, hz⟩
      dsimp only [List.cons_append, List.nil_append]
      repeat' (first | refine zP ?_ | refine zA ?_ | (refine zM ?_; intro _ _) | refine zX ?_ | (refine zC ?_; intro _ _ _ _) | (refine zS ?_; intro _ _) | (apply Ws <;> intro hg))
      refine WC.condP rfl (fun hlt => ?_) (fun hlt => ?_)
      · have hk' : k < xs.length := by omega
        have hbad : ∀ {c : Int}, errB xs k = 2 → (if xs.length = 0 then 4 else if 10 < xs.length then 3 else firstE (errB xs) xs.length) = 2 := fun {_} h1 => by
          rw [if_neg (by omega), if_neg (by omega), firstE_at hz (by rw [h1]; decide) hk', h1]
        rcases Nat.eq_zero_or_pos k with rfl | hk0
        · have e0 : errB xs 0 = if xs.getD 0 0 = -1 then 0 else 2 := by unfold errB; rw [if_pos rfl]
          by_cases hr : xs.getD 0 0 = -1
          · rw [if_pos hr] at e0
            repeat' (first | refine zP ?_ | refine zA ?_ | (refine zM ?_; intro _ _) | refine zX ?_ | (refine zC ?_; intro _ _ _ _) | (refine zS ?_; intro _ _) | refine zO ?_ | (apply Ws <;> intro hg))
            exact Ends.loop 1 (by omega) (by repeat' (first | exact .nil | refine .cons rfl ?_)) rfl ⟨rfl, by omega, firstE_succ hz e0⟩
          · rw [if_neg hr] at e0
            repeat' (first | refine zP ?_ | refine zA ?_ | (refine zM ?_; intro _ _) | refine zX ?_ | (refine zC ?_; intro _ _ _ _) | (refine zS ?_; intro _ _) | refine zO ?_ | (apply Ws <;> intro hg))
            refine Ends.ret1 rfl ⟨rfl, ?_⟩
            unfold errS; rw [hbad (c := 0) e0]
        · have e0 : errB xs k = if 0 ≤ xs.getD k 0 ∧ xs.getD k 0 < k then 0 else 2 := by unfold errB; rw [if_neg (by omega)]
          repeat' (first | refine zP ?_ | refine zA ?_ | (refine zM ?_; intro _ _) | refine zX ?_ | (refine zC ?_; intro _ _ _ _) | (refine zS ?_; intro _ _) | refine zO ?_ | (apply Ws <;> intro hg))
          refine WR.call (by first | exact gN | exact gS rfl) rfl rfl (in_fs _ _ _ _) ?_
          rintro _ _ ⟨rfl, rfl⟩
          by_cases hr : 0 ≤ xs.getD k 0 ∧ xs.getD k 0 ≤ (k : Int) - 1
          · rw [if_pos (by omega)] at e0
            repeat' (first | refine zP ?_ | refine zA ?_ | (refine zM ?_; intro _ _) | refine zX ?_ | (refine zC ?_; intro _ _ _ _) | (refine zS ?_; intro _ _) | refine zO ?_ | (apply Ws <;> intro hg))
            exact Ends.loop (k + 1) (by omega) (by repeat' (first | exact .nil | refine .cons rfl ?_)) rfl ⟨rfl, hk', firstE_succ hz e0⟩
          · rw [if_neg (by omega)] at e0
            repeat' (first | refine zP ?_ | refine zA ?_ | (refine zM ?_; intro _ _) | refine zX ?_ | (refine zC ?_; intro _ _ _ _) | (refine zS ?_; intro _ _) | refine zO ?_ | (apply Ws <;> intro hg))
            refine Ends.ret1 rfl ⟨rfl, ?_⟩
            unfold errS; rw [hbad (c := 0) e0]
      · have hkn : k = xs.length := by omega
        subst hkn
        repeat' (first | refine zP ?_ | refine zA ?_ | (refine zM ?_; intro _ _) | refine zX ?_ | (refine zC ?_; intro _ _ _ _) | (refine zS ?_; intro _ _) | (apply Ws <;> intro hg))
        refine Ends.ret1 rfl ⟨rfl, ?_⟩
        unfold errS; rw [if_neg (by omega), if_neg (by omega), hz]
theorem hand_fs (hH : hasH M n0 H) {xs : List Int} (hS : Sl M 1 v (ints xs)) (hx : xs.length ≤ 1000) {p : Nat} (hp : p < xs.length) :
    FS C 43 [v, .int .i64 (p : Int)] H (fun e H' => ∃ Mx n', Own 3 1 e (nodes (hndL xs p)) Mx ∧ n0 ≤ n' ∧ hasH (Mx ++ M) n' H') := by
  have hv := hS.one_
  refine FS.intro (pf := pf43) rfl rfl rfl ?_
  repeat' (first | refine zP ?_ | refine zA ?_ | (refine zM ?_; intro _ _) | refine zX ?_ | (refine zC ?_; intro _ _ _ _) | (refine zS ?_; intro _ _) | (apply Ws <;> intro hg))
  refine WC.loopX [(0, v), (1, _)] (fun s : KO => [(6, .int .i64 (s.k : Int)), (5, s.v)]) [] (fun s H' => s.k ≤ xs.length ∧ Own 3 1 s.v (nodes (hndT xs p s.k)) s.Mx ∧ n0 ≤ s.n ∧ hasH (s.Mx ++ M) s.n H') (fun s => xs.length - s.k) ⟨0, .slice none 0 0, [], n0⟩ (by repeat' (first | exact .nil | refine .cons rfl ?_)) rfl ⟨Nat.zero_le _, .nil, Nat.le_refl _, hH⟩ ?_
  clear hH
  rintro ⟨k, v7, Mx, n1⟩ H1 ⟨hk, hO, hn1, hH⟩
  simp only at hk hO hn1 hH
  have hil := hndT_len xs p k
  have his := hndT_succ xs p k
  have hS1 := hS.mono fun q hq => List.mem_append_right Mx hq
  dsimp only [List.cons_append, List.nil_append]
  repeat' (first | refine zP ?_ | refine zA ?_ | (refine zM ?_; intro _ _) | refine zX ?_ | (refine zC ?_; intro _ _ _ _) | (refine zS ?_; intro _ _) | (apply Ws <;> intro hg))
  refine WC.condP rfl (fun hlt => ?_) (fun hlt => ?_)
  · have hk' : k < xs.length := by omega
    have hadj := adj_iff (xs := xs) (i := p) (j := k)
    by_cases h1 : k = p
    · rw [if_pos (hadj.2 (.inl h1.symm))] at his
      repeat' (first | refine zP ?_ | refine zA ?_ | (refine zM ?_; intro _ _) | refine zX ?_ | (refine zC ?_; intro _ _ _ _) | (refine zS ?_; intro _ _) | refine zO ?_ | (apply Ws <;> intro hg))
      refine WR.append1F [] Mx M rfl rfl rfl rfl hO hH (new := [.int .i64 (k : Int)]) rfl rfl rfl (Nat.le_refl _) (by decide) (by simp; omega) fun v' Mx' n' H' q1 q2 q3 => ?_
      repeat' (first | refine zP ?_ | refine zA ?_ | (refine zM ?_; intro _ _) | refine zX ?_ | (refine zC ?_; intro _ _ _ _) | (refine zS ?_; intro _ _) | (apply Ws <;> intro hg))
      refine Ends.loop ⟨k + 1, v', Mx', n'⟩ (by simp only; omega) (by repeat' (first | exact .nil | refine .cons rfl ?_)) rfl ⟨hk', ?_, by simp only; omega, q2⟩
      simp only
      rw [his, nodes_snoc]; exact q1
    · by_cases h2 : xs.getD k 0 = (p : Int)
      · rw [if_pos (hadj.2 (.inr (.inr h2)))] at his
        repeat' (first | refine zP ?_ | refine zA ?_ | (refine zM ?_; intro _ _) | refine zX ?_ | (refine zC ?_; intro _ _ _ _) | (refine zS ?_; intro _ _) | refine zO ?_ | (apply Ws <;> intro hg))
        refine WR.append1F [] Mx M rfl rfl rfl rfl hO hH (new := [.int .i64 (k : Int)]) rfl rfl rfl (Nat.le_refl _) (by decide) (by simp; omega) fun v' Mx' n' H' q1 q2 q3 => ?_
        repeat' (first | refine zP ?_ | refine zA ?_ | (refine zM ?_; intro _ _) | refine zX ?_ | (refine zC ?_; intro _ _ _ _) | (refine zS ?_; intro _ _) | (apply Ws <;> intro hg))
        refine Ends.loop ⟨k + 1, v', Mx', n'⟩ (by simp only; omega) (by repeat' (first | exact .nil | refine .cons rfl ?_)) rfl ⟨hk', ?_, by simp only; omega, q2⟩
        simp only
        rw [his, nodes_snoc]; exact q1
      · by_cases h3 : xs.getD p 0 = (k : Int)
        · rw [if_pos (hadj.2 (.inr (.inl h3)))] at his
          repeat' (first | refine zP ?_ | refine zA ?_ | (refine zM ?_; intro _ _) | refine zX ?_ | (refine zC ?_; intro _ _ _ _) | (refine zS ?_; intro _ _) | refine zO ?_ | (apply Ws <;> intro hg))
          refine WR.append1F [] Mx M rfl rfl rfl rfl hO hH (new := [.int .i64 (k : Int)]) rfl rfl rfl (Nat.le_refl _) (by decide) (by simp; omega) fun v' Mx' n' H' q1 q2 q3 => ?_
          repeat' (first | refine zP ?_ | refine zA ?_ | (refine zM ?_; intro _ _) | refine zX ?_ | (refine zC ?_; intro _ _ _ _) | (refine zS ?_; intro _ _) | (apply Ws <;> intro hg))
          refine Ends.loop ⟨k + 1, v', Mx', n'⟩ (by simp only; omega) (by repeat' (first | exact .nil | refine .cons rfl ?_)) rfl ⟨hk', ?_, by simp only; omega, q2⟩
          simp only
          rw [his, nodes_snoc]; exact q1
        · rw [if_neg (fun h => by rcases hadj.1 h with h | h | h; exact h1 h.symm; exact h3 h; exact h2 h)] at his
          repeat' (first | refine zP ?_ | refine zA ?_ | (refine zM ?_; intro _ _) | refine zX ?_ | (refine zC ?_; intro _ _ _ _) | (refine zS ?_; intro _ _) | refine zO ?_ | (apply Ws <;> intro hg))
          refine Ends.loop ⟨k + 1, v7, Mx, n1⟩ (by simp only; omega) (by repeat' (first | exact .nil | refine .cons rfl ?_)) rfl ⟨hk', ?_, by simp only; omega, hH⟩
          simp only
          rw [his]; exact hO
  · have hkn : k = xs.length := by omega
    subst hkn
    repeat' (first | refine zP ?_ | refine zA ?_ | (refine zM ?_; intro _ _) | refine zX ?_ | (refine zC ?_; intro _ _ _ _) | (refine zS ?_; intro _ _) | (apply Ws <;> intro hg))
    exact Ends.ret1 rfl ⟨Mx, n1, hO, hn1, hH⟩
theorem has_fs (hH : hasH M n0 H) {l : List Nat} (hS : Sl M 1 v (nodes l)) (hl : l.length ≤ 100000) (a : Nat) :
    FS C 72 [v, .int .i64 (a : Int)] H (fun e H' => e = .bool (decide (a ∈ l)) ∧ H' = H) := by
  have hv := hS.one_
  refine FS.intro (pf := pf72) rfl rfl rfl ?_
  repeat' (first | refine zP ?_ | refine zA ?_ | (refine zM ?_; intro _ _) | refine zX ?_ | (refine zC ?_; intro _ _ _ _) | (refine zS ?_; intro _ _) | (apply Ws <;> intro hg))
  refine WC.loopX [(0, v), (1, _)] (fun k : Nat => [(5, .int .i64 (k : Int))]) [] (fun k H' => H' = H ∧ k ≤ l.length ∧ a ∉ l.take k) (fun k => l.length - k) 0 (by repeat' (first | exact .nil | refine .cons rfl ?_)) rfl ⟨rfl, Nat.zero_le _, by simp⟩ ?_
  rintro k H' ⟨rfl, hk, hno⟩
  dsimp only [List.cons_append, List.nil_append]
  repeat' (first | refine zP ?_ | refine zA ?_ | (refine zM ?_; intro _ _) | refine zX ?_ | (refine zC ?_; intro _ _ _ _) | (refine zS ?_; intro _ _) | (apply Ws <;> intro hg))
  refine WC.condP rfl (fun hlt => ?_) (fun hlt => ?_)
  · have hk' : k < l.length := by omega
    by_cases he : l.getD k 0 = a
    · repeat' (first | refine zP ?_ | refine zA ?_ | (refine zM ?_; intro _ _) | refine zX ?_ | (refine zC ?_; intro _ _ _ _) | (refine zS ?_; intro _ _) | refine zO ?_ | (apply Ws <;> intro hg))
      refine Ends.ret1 rfl ⟨?_, rfl⟩
      rw [decide_eq_true (by rw [← he]; exact getD_mem hk')]
    · repeat' (first | refine zP ?_ | refine zA ?_ | (refine zM ?_; intro _ _) | refine zX ?_ | (refine zC ?_; intro _ _ _ _) | (refine zS ?_; intro _ _) | refine zO ?_ | (apply Ws <;> intro hg))
      refine Ends.loop (k + 1) (by omega) (by repeat' (first | exact .nil | refine .cons rfl ?_)) rfl ⟨rfl, hk', ?_⟩
      rw [List.take_succ_eq_append_getElem hk', List.mem_append, ← getD_eq (a := 0)]
      rintro (h | h)
      · exact hno h
      · exact he (List.mem_singleton.1 h).symm
  · have hkl : k = l.length := by omega
    subst hkl
    rw [List.take_length] at hno
    repeat' (first | refine zP ?_ | refine zA ?_ | (refine zM ?_; intro _ _) | refine zX ?_ | (refine zC ?_; intro _ _ _ _) | (refine zS ?_; intro _ _) | (apply Ws <;> intro hg))
    exact Ends.ret1 rfl ⟨by rw [decide_eq_false hno], rfl⟩
theorem common_fs (hH : hasH M n0 H) {l m : List Nat} (hS : Sl M 1 v (nodes l)) (hU : Sl M 1 w (nodes m)) (hl : l.length ≤ 100000) (hm : m.length ≤ 100000) :
    FS C 64 [v, w] H (fun e H' => e = .bool (decide (∃ x ∈ l, x ∈ m)) ∧ H' = H) := by
  have hv := hS.one_
  have hw := hU.one_
  refine FS.intro (pf := pf64) rfl rfl rfl ?_
  repeat' (first | refine zP ?_ | refine zA ?_ | (refine zM ?_; intro _ _) | refine zX ?_ | (refine zC ?_; intro _ _ _ _) | (refine zS ?_; intro _ _) | (apply Ws <;> intro hg))
  refine WC.loopX [(0, v), (1, w)] (fun k : Nat => [(5, .int .i64 (k : Int))]) [] (fun k H' => H' = H ∧ k ≤ l.length ∧ ¬ ∃ x ∈ l.take k, x ∈ m) (fun k => l.length - k) 0 (by repeat' (first | exact .nil | refine .cons rfl ?_)) rfl ⟨rfl, Nat.zero_le _, by simp⟩ ?_
  rintro k H' ⟨rfl, hk, hno⟩
  dsimp only [List.cons_append, List.nil_append]
  repeat' (first | refine zP ?_ | refine zA ?_ | (refine zM ?_; intro _ _) | refine zX ?_ | (refine zC ?_; intro _ _ _ _) | (refine zS ?_; intro _ _) | (apply Ws <;> intro hg))
  refine WC.condP rfl (fun hlt => ?_) (fun hlt => ?_)
  · have hk' : k < l.length := by omega
    repeat' (first | refine zP ?_ | refine zA ?_ | (refine zM ?_; intro _ _) | refine zX ?_ | (refine zC ?_; intro _ _ _ _) | (refine zS ?_; intro _ _) | (apply Ws <;> intro hg))
    refine WR.call (by first | exact gN | exact gS rfl) rfl rfl (has_fs hH hU hm _) ?_
    rintro _ _ ⟨rfl, rfl⟩
    by_cases he : l.getD k 0 ∈ m
    · rw [decide_eq_true he]
      repeat' (first | refine zP ?_ | refine zA ?_ | (refine zM ?_; intro _ _) | refine zX ?_ | (refine zC ?_; intro _ _ _ _) | (refine zS ?_; intro _ _) | refine zO ?_ | (apply Ws <;> intro hg))
      refine Ends.ret1 rfl ⟨?_, rfl⟩
      rw [decide_eq_true ⟨_, getD_mem hk', he⟩]
    · rw [decide_eq_false he]
      repeat' (first | refine zP ?_ | refine zA ?_ | (refine zM ?_; intro _ _) | refine zX ?_ | (refine zC ?_; intro _ _ _ _) | (refine zS ?_; intro _ _) | refine zO ?_ | (apply Ws <;> intro hg))
      refine Ends.loop (k + 1) (by omega) (by repeat' (first | exact .nil | refine .cons rfl ?_)) rfl ⟨rfl, hk', ?_⟩
      rw [List.take_succ_eq_append_getElem hk', ← getD_eq (a := 0)]
      rintro ⟨x, hx, hxm⟩
      rcases List.mem_append.1 hx with h | h
      · exact hno ⟨x, h, hxm⟩
      · rw [List.mem_singleton.1 h] at hxm; exact he hxm
  · have hkl : k = l.length := by omega
    subst hkl
    rw [List.take_length] at hno
    repeat' (first | refine zP ?_ | refine zA ?_ | (refine zM ?_; intro _ _) | refine zX ?_ | (refine zC ?_; intro _ _ _ _) | (refine zS ?_; intro _ _) | (apply Ws <;> intro hg))
    exact Ends.ret1 rfl ⟨by rw [decide_eq_false hno], rfl⟩
theorem com_grd {xs : List Int} {i : Nat} {l : List Nat} (hl : ∀ x ∈ l, x < xs.length) : (∃ x ∈ hndL xs i, x ∈ l) ↔ ∃ p ∈ l, adj xs p i = true := by
  constructor
  · rintro ⟨x, h1, h2⟩
    exact ⟨x, h2, by rw [adj_comm]; exact (List.mem_filter.1 h1).2⟩
  · rintro ⟨p, h1, h2⟩
    exact ⟨p, List.mem_filter.2 ⟨List.mem_range.2 (hl p h1), by rw [adj_comm]; exact h2⟩, h1⟩
theorem com_apt {xs : List Int} {i j : Nat} : (∃ x ∈ hndL xs i, x ∈ hndL xs j) ↔ hm xs i &&& hm xs j ≠ 0 := by
  constructor
  · rintro ⟨x, h1, h2⟩ h
    refine and_zero.1 h x ⟨hm_bit.2 ?_, hm_bit.2 ?_⟩
    · have := List.mem_filter.1 h1; exact ⟨List.mem_range.1 this.1, this.2⟩
    · have := List.mem_filter.1 h2; exact ⟨List.mem_range.1 this.1, this.2⟩
  · intro h
    refine Classical.byContradiction fun hc => h (and_zero.2 fun j' hj => hc ⟨j', List.mem_filter.2 ?_, List.mem_filter.2 ?_⟩)
    · have := hm_bit.1 hj.1; exact ⟨List.mem_range.2 this.1, this.2⟩
    · have := hm_bit.1 hj.2; exact ⟨List.mem_range.2 this.1, this.2⟩
theorem rguards_fs (hH : hasH M n0 H) {xs : List Int} (hS : Sl M 1 v (ints xs)) (hx : xs.length ≤ 1000) {l : List Nat} (hU : Sl M 1 w (nodes l)) (hl : ∀ x ∈ l, x < xs.length) (hll : l.length ≤ 1000) :
    FS C 48 [v, w] H (fun e H' => e = .bool (grd xs l) ∧ ∃ n', n0 ≤ n' ∧ hasH M n' H') := by
  have hv := hS.one_
  have hw := hU.one_
  refine FS.intro (pf := pf48) rfl rfl rfl ?_
  repeat' (first | refine zP ?_ | refine zA ?_ | (refine zM ?_; intro _ _) | refine zX ?_ | (refine zC ?_; intro _ _ _ _) | (refine zS ?_; intro _ _) | (apply Ws <;> intro hg))
  refine WC.loopX [(0, v), (1, w)] (fun s : KC => [(5, .int .i64 (s.k : Int))]) [] (fun s H' => s.k ≤ xs.length ∧ (∀ i, i < s.k → ∃ p ∈ l, adj xs p i = true) ∧ n0 ≤ s.n ∧ hasH M s.n H') (fun s => xs.length - s.k) ⟨0, n0⟩ (by repeat' (first | exact .nil | refine .cons rfl ?_)) rfl ⟨Nat.zero_le _, fun i h => absurd h (Nat.not_lt_zero _), Nat.le_refl _, hH⟩ ?_
  clear hH
  rintro ⟨k, n1⟩ H1 ⟨hk, hall, hn1, hH⟩
  simp only at hk hall hn1 hH
  dsimp only [List.cons_append, List.nil_append]
  repeat' (first | refine zP ?_ | refine zA ?_ | (refine zM ?_; intro _ _) | refine zX ?_ | (refine zC ?_; intro _ _ _ _) | (refine zS ?_; intro _ _) | (apply Ws <;> intro hg))
  refine WC.condP rfl (fun hlt => ?_) (fun hlt => ?_)
  · have hk' : k < xs.length := by omega
    repeat' (first | refine zP ?_ | refine zA ?_ | (refine zM ?_; intro _ _) | refine zX ?_ | (refine zC ?_; intro _ _ _ _) | (refine zS ?_; intro _ _) | (apply Ws <;> intro hg))
    refine WR.call (by first | exact gN | exact gS rfl) rfl rfl (hand_fs hH hS hx hk') ?_
    rintro e2 H2 ⟨Mx, n2, hO, hn2, hH2⟩
    have hlen := hndL_len xs k
    repeat' (first | refine zP ?_ | refine zA ?_ | (refine zM ?_; intro _ _) | refine zX ?_ | (refine zC ?_; intro _ _ _ _) | (refine zS ?_; intro _ _) | (apply Ws <;> intro hg))
    refine WR.call (by first | exact gN | exact gS rfl) rfl rfl (common_fs hH2 (hO.sl M) (hU.mono fun q hq => List.mem_append_right Mx hq) (by omega) (by omega)) ?_
    rintro _ _ ⟨rfl, rfl⟩
    have hcg := com_grd (i := k) hl
    by_cases hc : ∃ x ∈ hndL xs k, x ∈ l
    · rw [decide_eq_true hc]
      repeat' (first | refine zP ?_ | refine zA ?_ | (refine zM ?_; intro _ _) | refine zX ?_ | (refine zC ?_; intro _ _ _ _) | (refine zS ?_; intro _ _) | refine zO ?_ | (apply Ws <;> intro hg))
      refine Ends.loop ⟨k + 1, n2⟩ (by simp only; omega) (by repeat' (first | exact .nil | refine .cons rfl ?_)) rfl ⟨hk', fun i hi => ?_, by simp only; omega, hH2.sub (List.sublist_append_right _ _)⟩
      by_cases e : i = k
      · rw [e]; exact hcg.1 hc
      · exact hall i (by simp only at hi; omega)
    · rw [decide_eq_false hc]
      repeat' (first | refine zP ?_ | refine zA ?_ | (refine zM ?_; intro _ _) | refine zX ?_ | (refine zC ?_; intro _ _ _ _) | (refine zS ?_; intro _ _) | refine zO ?_ | (apply Ws <;> intro hg))
      refine Ends.ret1 rfl ⟨?_, n2, by omega, hH2.sub (List.sublist_append_right _ _)⟩
      cases hg : grd xs l with
      | false => rfl
      | true => exact absurd (hcg.2 (grd_iff.1 hg k hk')) hc
  · have hkl : k = xs.length := by omega
    subst hkl
    repeat' (first | refine zP ?_ | refine zA ?_ | (refine zM ?_; intro _ _) | refine zX ?_ | (refine zC ?_; intro _ _ _ _) | (refine zS ?_; intro _ _) | (apply Ws <;> intro hg))
    exact Ends.ret1 rfl ⟨by rw [grd_iff.2 hall], n1, hn1, hH⟩
end
end Go.Proofs.Ytcfffhkabhmkmaa.Ps

/- The reference: lists of places; the law PostHands. -/
namespace Go.Proofs.Ytcfffhkabhmkmaa.Ps
open Go Go.Abs Go.Mth
set_option linter.unusedVariables false
set_option linter.unusedSimpArgs false
theorem pw_step {xs : List Int} {l : List Nat} {i : Nat} (hi : i < l.length) (h : (l.take i).Pairwise fun a b => hm xs a &&& hm xs b = 0) (hk : ∀ k, k < i → hm xs (l.getD i 0) &&& hm xs (l.getD k 0) = 0) : (l.take (i + 1)).Pairwise fun a b => hm xs a &&& hm xs b = 0 := by
  rw [List.take_succ_eq_append_getElem hi, ← getD_eq (a := 0), List.pairwise_append]
  refine ⟨h, by simp, fun a ha b hb => ?_⟩
  rw [List.mem_singleton.1 hb]
  obtain ⟨k, hk2, rfl⟩ := List.mem_iff_getElem.1 ha
  have hk3 : k < i := by rw [List.length_take] at hk2; omega
  have := hk k hk3
  rw [List.getElem_take, ← getD_eq (a := 0), Nat.and_comm]
  exact this
theorem not_pw {xs : List Int} {l : List Nat} {i k : Nat} (hi : i < l.length) (hk : k < i) (h : hm xs (l.getD i 0) &&& hm xs (l.getD k 0) ≠ 0) : apt xs l = false := by
  refine decide_eq_false fun hp => h ?_
  have := List.pairwise_iff_getElem.1 hp k i (by omega) hi hk
  rw [Nat.and_comm, getD_eq hi, getD_eq (by omega)]
  exact this
structure KM where
  i : Nat
  k : Nat
  n : Nat
attribute [local irreducible] gOK WS WC WR WD Ends FS YS OpV seqK blockK loopK midK retK rdK asgK rangeEnd sat Cell
section
variable {M : HL} {n0 : Nat} {H : Heap} {v w : Value}
theorem sameI_fs (hH : hasH M n0 H) {a b : List Int} (hS : Sl M 1 v (ints a)) (hU : Sl M 1 w (ints b)) (ha : a.length ≤ 100000) (hb : b.length ≤ 100000) :
    FS C 11 [v, w] H (fun e H' => e = .bool (decide (a = b)) ∧ H' = H) := by
  have hv := hS.one_
  have hw := hU.one_
  refine FS.intro (pf := pf11) rfl rfl rfl ?_
  repeat' (first | refine zP ?_ | refine zA ?_ | (refine zM ?_; intro _ _) | refine zX ?_ | (refine zC ?_; intro _ _ _ _) | (refine zS ?_; intro _ _) | (apply Ws <;> intro hg))
  refine WC.condP rfl (fun hne => ?_) (fun hne => ?_)
  · repeat' (first | refine zP ?_ | refine zA ?_ | (refine zM ?_; intro _ _) | refine zX ?_ | (refine zC ?_; intro _ _ _ _) | (refine zS ?_; intro _ _) | (apply Ws <;> intro hg))
    exact Ends.ret1 rfl ⟨by rw [decide_eq_false (fun h => by rw [h] at hne; exact hne rfl)], rfl⟩
  · have hle : a.length = b.length := by omega
    repeat' (first | refine zP ?_ | refine zA ?_ | (refine zM ?_; intro _ _) | refine zX ?_ | (refine zC ?_; intro _ _ _ _) | (refine zS ?_; intro _ _) | (apply Ws <;> intro hg))
    refine WC.loopX [(0, v), (1, w)] (fun k : Nat => [(5, .int .i64 (k : Int))]) [] (fun k H' => H' = H ∧ k ≤ a.length ∧ ∀ j, j < k → a.getD j 0 = b.getD j 0) (fun k => a.length - k) 0 (by repeat' (first | exact .nil | refine .cons rfl ?_)) rfl ⟨rfl, Nat.zero_le _, fun j h => absurd h (Nat.not_lt_zero _)⟩ ?_
    rintro k H' ⟨rfl, hk, hall⟩
    dsimp only [List.cons_append, List.nil_append]
    repeat' (first | refine zP ?_ | refine zA ?_ | (refine zM ?_; intro _ _) | refine zX ?_ | (refine zC ?_; intro _ _ _ _) | (refine zS ?_; intro _ _) | (apply Ws <;> intro hg))
    refine WC.condP rfl (fun hlt => ?_) (fun hlt => ?_)
    · have hk' : k < a.length := by omega
      have hkb : k < b.length := by omega
      repeat' (first | refine zP ?_ | refine zA ?_ | (refine zM ?_; intro _ _) | refine zX ?_ | (refine zC ?_; intro _ _ _ _) | (refine zS ?_; intro _ _))
      by_cases he : a.getD k 0 = b.getD k 0
      · repeat' (first | refine zP ?_ | refine zA ?_ | (refine zM ?_; intro _ _) | refine zX ?_ | (refine zC ?_; intro _ _ _ _) | (refine zS ?_; intro _ _) | refine zO ?_ | (apply Ws <;> intro hg))
        refine Ends.loop (k + 1) (by omega) (by repeat' (first | exact .nil | refine .cons rfl ?_)) rfl ⟨rfl, hk', fun j hj => ?_⟩
        by_cases e : j = k
        · rw [e]; exact he
        · exact hall j (by omega)
      · repeat' (first | refine zP ?_ | refine zA ?_ | (refine zM ?_; intro _ _) | refine zX ?_ | (refine zC ?_; intro _ _ _ _) | (refine zS ?_; intro _ _) | refine zO ?_ | (apply Ws <;> intro hg))
        exact Ends.ret1 rfl ⟨by rw [decide_eq_false (fun h => he (by rw [h]))], rfl⟩
    · have hkl : k = a.length := by omega
      subst hkl
      repeat' (first | refine zP ?_ | refine zA ?_ | (refine zM ?_; intro _ _) | refine zX ?_ | (refine zC ?_; intro _ _ _ _) | (refine zS ?_; intro _ _) | (apply Ws <;> intro hg))
      exact Ends.ret1 rfl ⟨by rw [decide_eq_true (ext_getD (a := 0) hle hall)], rfl⟩
theorem same_fs (hH : hasH M n0 H) {a b : List Nat} (hS : Sl M 1 v (nodes a)) (hU : Sl M 1 w (nodes b)) (ha : a.length ≤ 100000) (hb : b.length ≤ 100000) :
    FS C 11 [v, w] H (fun e H' => e = .bool (decide (a = b)) ∧ H' = H) := by
  refine (sameI_fs hH (a := IL a) (b := IL b) (by rw [← nodes_IL]; exact hS) (by rw [← nodes_IL]; exact hU) (by rw [IL_len]; exact ha) (by rw [IL_len]; exact hb)).mono ?_
  rintro e H' ⟨h1, h2⟩
  refine ⟨?_, h2⟩
  rw [h1]
  congr 1
  rw [decide_eq_decide]
  constructor
  · intro h
    have := congrArg (List.map Int.toNat) h
    rwa [toNat_IL, toNat_IL] at this
  · intro h; rw [h]
set_option maxHeartbeats 1000000 in
theorem rapart_fs (hH : hasH M n0 H) {xs : List Int} (hS : Sl M 1 v (ints xs)) (hx : xs.length ≤ 1000) {l : List Nat} (hU : Sl M 1 w (nodes l)) (hl : ∀ x ∈ l, x < xs.length) (hll : l.length ≤ 1000) :
    FS C 50 [v, w] H (fun e H' => e = .bool (apt xs l) ∧ ∃ n', n0 ≤ n' ∧ hasH M n' H') := by
  have hv := hS.one_
  have hw := hU.one_
  refine FS.intro (pf := pf50) rfl rfl rfl ?_
  repeat' (first | refine zP ?_ | refine zA ?_ | (refine zM ?_; intro _ _) | refine zX ?_ | (refine zC ?_; intro _ _ _ _) | (refine zS ?_; intro _ _) | (apply Ws <;> intro hg))
  refine WC.loopX [(0, v), (1, w)] (fun s : KM => [(5, .int .i64 (s.i : Int))]) [] (fun s H' => s.i ≤ l.length ∧ (l.take s.i).Pairwise (fun a b => hm xs a &&& hm xs b = 0) ∧ n0 ≤ s.n ∧ hasH M s.n H') (fun s => l.length - s.i) ⟨0, 0, n0⟩ (by repeat' (first | exact .nil | refine .cons rfl ?_)) rfl ⟨Nat.zero_le _, by simp, Nat.le_refl _, hH⟩ ?_
  clear hH
  rintro ⟨i, _, n1⟩ H1 ⟨hi, hpw, hn1, hH⟩
  simp only at hi hpw hn1 hH
  dsimp only [List.cons_append, List.nil_append]
  repeat' (first | refine zP ?_ | refine zA ?_ | (refine zM ?_; intro _ _) | refine zX ?_ | (refine zC ?_; intro _ _ _ _) | (refine zS ?_; intro _ _) | (apply Ws <;> intro hg))
  refine WC.condP rfl (fun hlt => ?_) (fun hlt => ?_)
  · have hi' : i < l.length := by omega
    have hli := hl _ (getD_mem (a := 0) hi')
    repeat' (first | refine zP ?_ | refine zA ?_ | (refine zM ?_; intro _ _) | refine zX ?_ | (refine zC ?_; intro _ _ _ _) | (refine zS ?_; intro _ _) | (apply Ws <;> intro hg))
    refine WC.loopX [(0, v), (1, w), (5, _)] (fun s : KM => [(6, .int .i64 (s.k : Int))]) [] (fun s H' => s.k ≤ i ∧ (∀ k, k < s.k → hm xs (l.getD i 0) &&& hm xs (l.getD k 0) = 0) ∧ n0 ≤ s.n ∧ hasH M s.n H') (fun s => i - s.k) ⟨0, 0, n1⟩ (by repeat' (first | exact .nil | refine .cons rfl ?_)) rfl ⟨Nat.zero_le _, fun k h => absurd h (Nat.not_lt_zero _), hn1, hH⟩ ?_
    clear hH
    rintro ⟨_, k, n2⟩ H2 ⟨hk, hall, hn2, hH⟩
    simp only at hk hall hn2 hH
    dsimp only [List.cons_append, List.nil_append]
    repeat' (first | refine zP ?_ | refine zA ?_ | (refine zM ?_; intro _ _) | refine zX ?_ | (refine zC ?_; intro _ _ _ _) | (refine zS ?_; intro _ _) | (apply Ws <;> intro hg))
    refine WC.condP rfl (fun hlt2 => ?_) (fun hlt2 => ?_)
    · have hk' : k < i := by omega
      have hkl : k < l.length := by omega
      have hlk := hl _ (getD_mem (a := 0) hkl)
      repeat' (first | refine zP ?_ | refine zA ?_ | (refine zM ?_; intro _ _) | refine zX ?_ | (refine zC ?_; intro _ _ _ _) | (refine zS ?_; intro _ _) | (apply Ws <;> intro hg))
      refine WC.regionD ?_
      repeat' (first | refine zD ?_ | (refine zE ?_; intro _ _ _ _))
      rename_i _ _ _ _ _ _ _ hC2
      refine WD.call (by first | exact gN | exact gS rfl) rfl rfl (hand_fs hH hS hx hli) ?_
      rintro e3 H3 ⟨Mx, n3, hO, hn3, hH3⟩
      refine ⟨stands_cons (.inr (holds_at ((hC2.mono fun q hq => List.mem_append_right Mx hq).read hH3) (same_int _ _))) (stands_cons (.inl rfl) stands_nil'), ?_⟩
      refine WD.call (by first | exact gN | exact gS rfl) rfl rfl (hand_fs hH3 (hS.mono fun q hq => List.mem_append_right Mx hq) hx hlk) ?_
      rintro e4 H4 ⟨My, n4, hP, hn4, hH4⟩
      refine ⟨stands_cons (.inl rfl) (stands_cons (.inl rfl) stands_nil'), ?_⟩
      refine WD.toWR rfl ?_
      have hq1 := hndL_len xs (l.getD i 0)
      have hq2 := hndL_len xs (l.getD k 0)
      have hcA := com_apt (xs := xs) (i := l.getD i 0) (j := l.getD k 0)
      have hH5 : hasH M n4 H4 := hH4.sub ((List.sublist_append_right _ _).trans (List.sublist_append_right _ _))
      refine WR.call (by first | exact gN | exact gS rfl) rfl rfl (common_fs hH4 ((hO.sl M).mono fun q hq => List.mem_append_right My hq) (hP.sl _) (by omega) (by omega)) ?_
      rintro _ _ ⟨rfl, rfl⟩
      by_cases hc : ∃ x ∈ hndL xs (l.getD i 0), x ∈ hndL xs (l.getD k 0)
      · rw [decide_eq_true hc]
        repeat' (first | refine zP ?_ | refine zA ?_ | (refine zM ?_; intro _ _) | refine zX ?_ | (refine zC ?_; intro _ _ _ _) | (refine zS ?_; intro _ _) | refine zO ?_ | (apply Ws <;> intro hg))
        exact Ends.ret1 rfl ⟨by rw [not_pw hi' hk' (hcA.1 hc)], n4, by omega, hH5⟩
      · rw [decide_eq_false hc]
        repeat' (first | refine zP ?_ | refine zA ?_ | (refine zM ?_; intro _ _) | refine zX ?_ | (refine zC ?_; intro _ _ _ _) | (refine zS ?_; intro _ _) | refine zO ?_ | (apply Ws <;> intro hg))
        refine Ends.loop ⟨i, k + 1, n4⟩ (by simp only; omega) (by repeat' (first | exact .nil | refine .cons rfl ?_)) rfl ⟨hk', fun k2 hk2 => ?_, by simp only; omega, hH5⟩
        by_cases e : k2 = k
        · rw [e]; exact Classical.byContradiction fun h => hc (hcA.2 h)
        · exact hall k2 (by simp only at hk2; omega)
    · have hki : k = i := by omega
      subst hki
      repeat' (first | refine zP ?_ | refine zA ?_ | (refine zM ?_; intro _ _) | refine zX ?_ | (refine zC ?_; intro _ _ _ _) | (refine zS ?_; intro _ _) | (apply Ws <;> intro hg))
      exact Ends.loop ⟨k + 1, 0, n2⟩ (by simp only; omega) (by repeat' (first | exact .nil | refine .cons rfl ?_)) rfl ⟨hi', pw_step hi' hpw hall, hn2, hH⟩
  · have hil : i = l.length := by omega
    subst hil
    rw [List.take_length] at hpw
    repeat' (first | refine zP ?_ | refine zA ?_ | (refine zM ?_; intro _ _) | refine zX ?_ | (refine zC ?_; intro _ _ _ _) | (refine zS ?_; intro _ _) | (apply Ws <;> intro hg))
    exact Ends.ret1 rfl ⟨by rw [show apt xs l = true from decide_eq_true hpw], n1, hn1, hH⟩
end
end Go.Proofs.Ytcfffhkabhmkmaa.Ps

/- The reference: all lists of places. -/
namespace Go.Proofs.Ytcfffhkabhmkmaa.Ps
open Go Go.Abs Go.Mth
set_option linter.unusedVariables false
set_option linter.unusedSimpArgs false
def fromL (b : List Nat) : Nat := if b = [] then 0 else b.getD (b.length - 1) 0 + 1
theorem fromL_snoc (b : List Nat) (x : Nat) : fromL (b ++ [x]) = x + 1 := by
  unfold fromL
  rw [if_neg (by simp), List.length_append, List.length_singleton, Nat.add_sub_cancel, snoc_at]
theorem RowsB.all_one {M : HL} {ws : List Value} {zs : List (List Nat)} (h : RowsB M ws zs) : ws.all one = true := by
  rw [List.all_eq_true]
  intro w hw
  obtain ⟨i, hi, rfl⟩ := List.mem_iff_getElem.1 hw
  have := h.2 i (by rw [← h.1]; exact hi)
  rw [getD_eq hi] at this
  exact this.one_
theorem RowsB.app {M : HL} {ws us : List Value} {zs ys : List (List Nat)} (h : RowsB M ws zs) (k : RowsB M us ys) : RowsB M (ws ++ us) (zs ++ ys) := by
  refine ⟨by simp [h.1, k.1], fun i hi => ?_⟩
  by_cases e : i < zs.length
  · rw [getD_app_l (by rw [h.1]; exact e), getD_app_l e]; exact h.2 i e
  · rw [List.length_append] at hi
    have h1 : (ws ++ us).getD i undef = us.getD (i - zs.length) undef := by
      rw [List.getD_eq_getElem?_getD, List.getElem?_append_right (by rw [h.1]; omega), h.1, ← List.getD_eq_getElem?_getD]
    have h2 : (zs ++ ys).getD i [] = ys.getD (i - zs.length) [] := by
      rw [List.getD_eq_getElem?_getD, List.getElem?_append_right (by omega), ← List.getD_eq_getElem?_getD]
    rw [h1, h2]
    exact k.2 _ (by omega)
structure KR where
  i : Nat
  v : Value
  ws : List Value
  O : List (List Nat)
  MO : HL
  Mi : HL
  n : Nat
attribute [local irreducible] gOK WS WC WR WD Ends FS YS OpV seqK blockK loopK midK retK rdK asgK rangeEnd sat Cell
section
set_option maxHeartbeats 2000000 in
theorem lists_fs {n : Nat} (hn : n ≤ 10) : ∀ (m : Nat), m ≤ n → ∀ {M Mb : HL} {n0 : Nat} {H : Heap} {v : Value} {b : List Nat} (hH : hasH M n0 H) (hMb : ∀ p ∈ Mb, p ∈ M) (hS : Sl Mb 1 v (nodes b)) (h0 : b = [] → v = .slice none 0 0) (hf : fromL b = n - m) (hbl : b.length ≤ 10 - m),
    FS C 56 [.int .i64 (n : Int), v] H (fun e H' => ∃ ws MB Mi n', Own 22 1 e ws MB ∧ RowsB (Mi ++ Mb) ws (b :: T n m b) ∧ n0 ≤ n' ∧ hasH (MB ++ (Mi ++ M)) n' H') := by
  intro m
  induction m using Nat.strongRecOn with
  | ind m ih =>
    intro hm M Mb n0 H v b hH hMb hSb h0 hf hbl
    have hS := hSb.mono hMb
    have hv := hS.one_
    have hTl := T_len n m b
    have hpow : 2 ^ m ≤ 2 ^ 10 := Nat.pow_le_pow_right (by omega) (by omega)
    refine FS.intro (pf := pf56) rfl rfl rfl ?_
    repeat' (first | refine zP ?_ | refine zA ?_ | (refine zM ?_; intro _ _) | refine zX ?_ | (refine zC ?_; intro _ _ _ _) | (refine zS ?_; intro _ _) | (apply Ws <;> intro hg))
    refine WR.bldS (by first | exact gN | exact gS rfl) rfl hH (vs := [(0, v)]) rfl (cs := [v]) (fill1 hv) (by simp [hv]) fun H1 hH1 => ?_
    have hS1 := hS.cons (p := (n0, Ch.row 22 0 0 [v]))
    have hH1' : hasH ([(n0, Ch.inp 22 0 0 [v])] ++ ([] ++ M)) (n0 + 1) H1 := hH1.asInp .here
    have hO1 : Own 22 1 (.slice (some ⟨n0, 0, some 0⟩) 1 (2 * 1 + 1)) [v] [(n0, .inp 22 0 0 [v])] := .full (len := 1) rfl (by simp [hv])
    have hR1 : RowsB ([] ++ Mb) [v] [b] := RowsB.snoc (ws := []) (zs := []) (RowsB.nil _) hSb
    have hS1' : Sl ((n0, Ch.inp 22 0 0 [v]) :: M) 1 v (nodes b) := hS.cons
    clear hH hH1
    replace hH1 : hasH ((n0, Ch.inp 22 0 0 [v]) :: M) (n0 + 1) H1 := hH1'
    clear hS1
    by_cases hb0 : b.length = 0
    case' pos =>
      have hbn : b = [] := List.eq_nil_of_length_eq_zero hb0
      have hf0 : n - m = 0 := by rw [← hf, hbn]; rfl
      repeat' (first | refine zP ?_ | refine zA ?_ | (refine zM ?_; intro _ _) | refine zX ?_ | (refine zC ?_; intro _ _ _ _) | (refine zS ?_; intro _ _) | refine zO ?_ | (apply Ws <;> intro hg))
      rw [show (0 : Int) = ((n - m : Nat) : Int) by omega]
    case' neg =>
      have hbne : b ≠ [] := fun h => hb0 (by rw [h]; rfl)
      have hf1 : b.getD (b.length - 1) 0 + 1 = n - m := by rw [← hf, fromL, if_neg hbne]
      repeat' (first | refine zP ?_ | refine zA ?_ | (refine zM ?_; intro _ _) | refine zX ?_ | (refine zC ?_; intro _ _ _ _) | (refine zS ?_; intro _ _) | refine zO ?_ | (apply Ws <;> intro hg))
      rw [show ((b.getD (b.length - 1) 0 : Nat) : Int) + 1 = ((n - m : Nat) : Int) by omega]
    all_goals
      refine WC.loopX [(0, _), (1, v)] (fun z : KR => [(7, .int .i64 (z.i : Int)), (5, z.v)]) []
        (fun z H' => n - m ≤ z.i ∧ z.i ≤ n ∧ z.O ++ T n (n - z.i) b = b :: T n m b ∧ Own 22 1 z.v z.ws z.MO ∧ RowsB (z.Mi ++ Mb) z.ws z.O ∧ n0 ≤ z.n ∧ hasH (z.MO ++ (z.Mi ++ M)) z.n H') (fun z => n - z.i)
        ⟨n - m, .slice (some ⟨n0, 0, some 0⟩) 1 (2 * 1 + 1), [v], [b], [(n0, .inp 22 0 0 [v])], [], n0 + 1⟩ (by repeat' (first | exact .nil | refine .cons rfl ?_)) rfl ⟨Nat.le_refl _, Nat.sub_le _ _, by simp only; rw [show n - (n - m) = m by omega]; rfl, hO1, hR1, by simp only; omega, hH1'⟩ ?_
      clear hH1 hO1 hR1 hS1' hH1' hS
      rintro ⟨i, v5, ws, O, MO, Mi, n1⟩ H2 ⟨hi1, hi2, hOT, hO, hR, hn1, hH⟩
      simp only at hi1 hi2 hOT hO hR hn1 hH
      dsimp only [List.cons_append, List.nil_append]
      repeat' (first | refine zP ?_ | refine zA ?_ | (refine zM ?_; intro _ _) | refine zX ?_ | (refine zC ?_; intro _ _ _ _) | (refine zS ?_; intro _ _) | (apply Ws <;> intro hg))
      refine WC.condP rfl (fun hlt => ?_) (fun hlt => ?_)
      · have hi' : i < n := by omega
        obtain ⟨q, hq⟩ : ∃ q, n - i = q + 1 := ⟨n - i - 1, by omega⟩
        have hqi : n - (q + 1) = i := by omega
        rw [hq, T, hqi] at hOT
        have hS0 : Sl (MO ++ (Mi ++ M)) 1 v (nodes b) := hSb.mono fun q hq => List.mem_append_right _ (List.mem_append_right _ (hMb q hq))
        obtain ⟨X, hX⟩ : ∃ X, MO ++ (Mi ++ M) = X := ⟨_, rfl⟩
        rw [hX] at hH hS0
        repeat' (first | refine zP ?_ | refine zA ?_ | (refine zM ?_; intro _ _) | refine zX ?_ | (refine zC ?_; intro _ _ _ _) | (refine zS ?_; intro _ _) | (apply Ws <;> intro hg))
        refine WR.bldS (by first | exact gN | exact gS rfl) rfl hH (vs := []) rfl (cs := []) (by rfl) rfl fun H3 hH3 => ?_
        repeat' (first | refine zP ?_ | refine zA ?_ | (refine zM ?_; intro _ _) | refine zX ?_ | (refine zC ?_; intro _ _ _ _) | (refine zS ?_; intro _ _) | (apply Ws <;> intro hg))
        refine WR.appZS (Mx := [(n1, Ch.row 3 0 0 [])]) (T := X) (xs := []) (ys := b) (by first | exact gN | exact gS rfl) rfl rfl rfl .empty (hS0.mono fun q hq => List.mem_append_right _ hq) h0 hH3 (by simp) (by omega) fun v4 M4 n4 H4 hO4 hH4 hn4 => ?_
        rw [List.nil_append] at hO4
        repeat' (first | refine zP ?_ | refine zA ?_ | (refine zM ?_; intro _ _) | refine zX ?_ | (refine zC ?_; intro _ _ _ _) | (refine zS ?_; intro _ _) | (apply Ws <;> intro hg))
        refine WR.app1Z (y := i) (xs := b) (T := X) rfl rfl rfl rfl hO4 hH4 (by rfl) (by omega) fun v5' M5 n5 H5 hO5 hH5 hn5 => ?_
        clear hH hH3 hH4
        refine WR.call (by first | exact gN | exact gS rfl) rfl rfl (ih q (by omega) (by omega) (Mb := M5) hH5 (fun p hp => List.mem_append_left _ hp) ((hO5.own.sl []).mono fun p hp => by simpa using hp) (fun h => absurd h (by simp)) (by rw [fromL_snoc]; omega) (by simp; omega)) ?_
        rintro e6 H6 ⟨us, MB, Mj, n6, hO6, hR6, hn6, hH6⟩
        have hTq := T_len n q (b ++ [i])
        have hlen := congrArg List.length hOT
        simp only [List.length_append, List.length_cons] at hlen
        have hul := hR6.1
        have hwl := hR.1
        rw [List.length_cons] at hul
        have hR6' : RowsB ((MB ++ (Mj ++ (M5 ++ Mi))) ++ Mb) us ((b ++ [i]) :: T n q (b ++ [i])) := hR6.mono fun q hq => by
          rcases List.mem_append.1 hq with h | h <;> simp [h]
        have hune : us ≠ [] := fun h => by rw [h] at hul; simp at hul
        obtain ⟨hk6, hs6⟩ := (hO6.sl (Mj ++ (M5 ++ X))).src hH6 hune
        have hs7 := hs6 _ (Nat.le_refl _)
        rw [List.take_length] at hs7
        subst hX
        refine WR.append (M' := MB ++ (Mj ++ (M5 ++ (MO ++ (Mi ++ M))))) (M0 := MB ++ (Mj ++ (M5 ++ (Mi ++ M)))) (by first | exact gN | exact gS rfl) rfl rfl rfl hO hH6 (List.Sublist.refl _) (by classical exact List.perm_iff_count.2 (fun a => by simp only [defds, List.map_cons, List.map_nil, List.count_append, List.count_cons, List.count_nil, List.cons_append, List.nil_append, List.append_nil]; omega)) hk6 hs7 (by simp) (by omega) hR6.all_one (Nat.le_refl _) (by decide) (by omega) fun v7 M7 n7 H7 hO7 hH7 hn7 => ?_
        repeat' (first | refine zP ?_ | refine zA ?_ | (refine zM ?_; intro _ _) | refine zX ?_ | (refine zC ?_; intro _ _ _ _) | (refine zS ?_; intro _ _) | (apply Ws <;> intro hg))
        refine Ends.loop ⟨i + 1, v7, ws ++ us, O ++ ((b ++ [i]) :: T n q (b ++ [i])), M7, MB ++ (Mj ++ (M5 ++ Mi)), n7⟩ (by simp only; omega) (by repeat' (first | exact .nil | refine .cons rfl ?_)) rfl ⟨by simp only; omega, hi', ?_, hO7, RowsB.app (hR.mono fun q hq => ?_) hR6', by simp only; omega, hH7.perm (by classical exact List.perm_iff_count.2 (fun a => by simp only [defds, List.map_cons, List.map_nil, List.count_append, List.count_cons, List.count_nil, List.cons_append, List.nil_append, List.append_nil]; omega))⟩
        · simp only
          rw [show n - (i + 1) = q by omega, ← hOT]; simp
        · rcases List.mem_append.1 hq with h | h <;> simp [h]
      · have hin : i = n := by omega
        subst hin
        rw [Nat.sub_self, T, List.append_nil] at hOT
        rw [hOT] at hR
        repeat' (first | refine zP ?_ | refine zA ?_ | (refine zM ?_; intro _ _) | refine zX ?_ | (refine zC ?_; intro _ _ _ _) | (refine zS ?_; intro _ _) | (apply Ws <;> intro hg))
        exact Ends.ret1 rfl ⟨ws, MO, Mi, n1, hO, hR, hn1, hH⟩
end
end Go.Proofs.Ytcfffhkabhmkmaa.Ps

/- The lists that cost the least, one after the other. -/
namespace Go.Proofs.Ytcfffhkabhmkmaa.Ps
open Go Go.Abs Go.Mth
set_option linter.unusedVariables false
set_option linter.unusedSimpArgs false
theorem snocInd {α : Type} {P : List α → Prop} (h0 : P []) (h1 : ∀ l x, P l → P (l ++ [x])) (l : List α) : P l := by
  have : ∀ r : List α, P r.reverse := by
    intro r
    induction r with
    | nil => exact h0
    | cons x r ih => rw [List.reverse_cons]; exact h1 _ _ ih
  have h := this l.reverse
  rwa [List.reverse_reverse] at h
theorem bestF_inv (c : List Nat → Int) (zs : List (List Nat)) : (zs = [] ∧ bestF c zs = ([], 0)) ∨ ((∀ z ∈ zs, (bestF c zs).2 ≤ c z) ∧ (bestF c zs).1 = zs.filter (fun z => decide (c z = (bestF c zs).2)) ∧ (bestF c zs).1 ≠ []) := by
  refine snocInd (P := fun zs => (zs = [] ∧ bestF c zs = ([], 0)) ∨ ((∀ z ∈ zs, (bestF c zs).2 ≤ c z) ∧ (bestF c zs).1 = zs.filter (fun z => decide (c z = (bestF c zs).2)) ∧ (bestF c zs).1 ≠ [])) (.inl ⟨rfl, rfl⟩) (fun l x ih => ?_) zs
  right
  rw [bestF_snoc]
  rcases ih with ⟨rfl, h⟩ | ⟨h1, h2, h3⟩
  · rw [h]
    simp [bestS]
  · obtain ⟨B, m, hb⟩ : ∃ B m, bestF c l = (B, m) := ⟨_, _, rfl⟩
    rw [hb] at h1 h2 h3 ⊢
    simp only at h1 h2 h3
    unfold bestS
    simp only
    by_cases hc : c x < m
    · rw [if_pos (.inr hc)]
      refine ⟨fun z hz => ?_, ?_, by simp⟩
      · rcases List.mem_append.1 hz with hz | hz
        · have := h1 z hz; simp only; omega
        · rw [List.mem_singleton.1 hz]; exact Int.le_refl _
      · simp only
        rw [List.filter_append, List.filter_eq_nil_iff.2 fun z hz => by have := h1 z hz; simp; omega]
        simp
    · rw [if_neg (by rintro (h | h); exact h3 h; exact hc h)]
      by_cases he : c x = m
      · rw [if_pos he]
        refine ⟨fun z hz => ?_, ?_, by simp⟩
        · rcases List.mem_append.1 hz with hz | hz
          · exact h1 z hz
          · rw [List.mem_singleton.1 hz]; simp only; omega
        · simp only
          rw [List.filter_append, List.filter_cons_of_pos (by simpa using he), ← h2]; rfl
      · rw [if_neg he]
        refine ⟨fun z hz => ?_, ?_, h3⟩
        · rcases List.mem_append.1 hz with hz | hz
          · exact h1 z hz
          · rw [List.mem_singleton.1 hz]; simp only; omega
        · simp only
          rw [List.filter_append, List.filter_cons_of_neg (by simpa using he), ← h2]; simp
theorem sumZ_len (z : List Nat) : sumZ (fun _ => 1) z = (z.length : Int) := by
  induction z with
  | nil => rfl
  | cons x z ih => have : sumZ (fun _ => 1) (x :: z) = 1 + sumZ (fun _ => 1) z := by simp [sumZ]
                   rw [this, ih, List.length_cons]; omega
theorem sumZ_neg (z : List Nat) : sumZ (fun _ => -1) z = -(z.length : Int) := by
  induction z with
  | nil => rfl
  | cons x z ih => have : sumZ (fun _ => -1) (x :: z) = -1 + sumZ (fun _ => -1) z := by simp [sumZ]
                   rw [this, ih, List.length_cons]; omega
def fstB (c : List Nat → Int) (zs : List (List Nat)) : List Nat := (bestF c zs).1.getD 0 []
theorem bestF_all {c : List Nat → Int} {zs : List (List Nat)} {z : List Nat} (h : z ∈ (bestF c zs).1) : z ∈ zs ∧ c z = (bestF c zs).2 := by
  rcases bestF_inv c zs with ⟨rfl, h1⟩ | ⟨_, h2, _⟩
  · rw [h1] at h; cases h
  · rw [h2] at h
    have := List.mem_filter.1 h
    exact ⟨this.1, by simpa using this.2⟩
theorem fstB_mem {c : List Nat → Int} {zs : List (List Nat)} (h : zs ≠ []) : fstB c zs ∈ (bestF c zs).1 := by
  unfold fstB
  exact getD_mem (List.length_pos_iff.2 (bestF_ne h))
theorem fstB_cost {c : List Nat → Int} {zs : List (List Nat)} (h : zs ≠ []) : c (fstB c zs) = (bestF c zs).2 := (bestF_all (fstB_mem h)).2
theorem fstB_step (c : List Nat → Int) (zs : List (List Nat)) (z : List Nat) : fstB c (zs ++ [z]) = if zs = [] ∨ c z < c (fstB c zs) then z else fstB c zs := by
  by_cases h0 : zs = []
  · subst h0
    rw [if_pos (.inl rfl)]
    simp [fstB, bestF, bestS]
  · have hne := bestF_ne (c := c) h0
    have hc := fstB_cost (c := c) h0
    unfold fstB
    rw [bestF_snoc]
    unfold fstB at hc
    obtain ⟨B, m, hb⟩ : ∃ B m, bestF c zs = (B, m) := ⟨_, _, rfl⟩
    rw [hb] at hne hc ⊢
    simp only at hne hc ⊢
    rw [hc]
    unfold bestS
    simp only
    by_cases hl : c z < m
    · rw [if_pos (.inr hl), if_pos (.inr hl)]; rfl
    · have e1 : ¬ (B = [] ∨ c z < m) := by rintro (h | h); exact hne h; exact hl h
      have e2 : ¬ (zs = [] ∨ c z < m) := by rintro (h | h); exact h0 h; exact hl h
      rw [if_neg e1, if_neg e2]
      by_cases he : c z = m
      · rw [if_pos he]
        exact getD_app_l (List.length_pos_iff.2 hne)
      · rw [if_neg he]
end Go.Proofs.Ytcfffhkabhmkmaa.Ps

/- The reference: the lists that guard, the smallest ones, costs. -/
namespace Go.Proofs.Ytcfffhkabhmkmaa.Ps
open Go Go.Abs Go.Mth
set_option linter.unusedVariables false
set_option linter.unusedSimpArgs false
def smaS (out : List (List Nat)) (z : List Nat) : List (List Nat) :=
  if out ≠ [] ∧ z.length < (out.getD 0 []).length then [z] else if out = [] ∨ z.length = (out.getD 0 []).length then out ++ [z] else out
def smaL (zs : List (List Nat)) : List (List Nat) := zs.foldl smaS []
theorem smaL_snoc (zs : List (List Nat)) (z : List Nat) : smaL (zs ++ [z]) = smaS (smaL zs) z := by simp [smaL]
theorem smaL_best (zs : List (List Nat)) : smaL zs = (bestF (sumZ fun _ => 1) zs).1 := by
  refine snocInd (P := fun zs => smaL zs = (bestF (sumZ fun _ => 1) zs).1) rfl (fun l x ih => ?_) zs
  rw [smaL_snoc, bestF_snoc, ih]
  rcases bestF_inv (sumZ fun _ => 1) l with ⟨rfl, h1⟩ | ⟨h1, h2, h3⟩
  · rw [h1]; simp [smaS, bestS]
  · have hl : l ≠ [] := by rintro rfl; exact h3 rfl
    have hc := fstB_cost (c := sumZ fun _ => 1) hl
    unfold fstB at hc
    obtain ⟨B, m, hb⟩ : ∃ B m, bestF (sumZ fun _ => 1) l = (B, m) := ⟨_, _, rfl⟩
    rw [hb] at h3 hc ⊢
    simp only at h3 hc ⊢
    rw [sumZ_len] at hc
    unfold smaS bestS
    simp only
    rw [sumZ_len]
    by_cases c1 : x.length < (B.getD 0 []).length
    · rw [if_pos ⟨h3, c1⟩, if_pos (.inr (by omega))]
    · have e1 : ¬ (B ≠ [] ∧ x.length < (B.getD 0 []).length) := fun h => c1 h.2
      have e2 : ¬ (B = [] ∨ (x.length : Int) < m) := by rintro (h | h); exact h3 h; omega
      rw [if_neg e1, if_neg e2]
      by_cases c2 : x.length = (B.getD 0 []).length
      · rw [if_pos (.inr c2), if_pos (by omega)]
      · have e3 : ¬ (B = [] ∨ x.length = (B.getD 0 []).length) := by rintro (h | h); exact h3 h; exact c2 h
        rw [if_neg e3, if_neg (by omega)]
theorem smaL_len (zs : List (List Nat)) : (smaL zs).length ≤ zs.length := by rw [smaL_best]; exact bestF_len _ _
theorem take_snoc {α : Type} {zs : List α} {k : Nat} {a : α} (h : k < zs.length) : zs.take (k + 1) = zs.take k ++ [zs.getD k a] := by
  rw [List.take_succ_eq_append_getElem h, ← getD_eq (a := a)]
theorem one1 {v : Value} (h : one v = true) : [v].all one = true := by simp [h]
structure KG where
  k : Nat
  v : Value
  ws : List Value
  MO : HL
  n : Nat
attribute [local irreducible] gOK WS WC WR WD Ends FS YS OpV seqK blockK loopK midK retK rdK asgK rangeEnd sat Cell
section
variable {M : HL} {n0 : Nat} {H : Heap} {v w : Value}
set_option maxHeartbeats 1000000 in
theorem guarding_fs (hH : hasH M n0 H) {xs : List Int} (hS : Sl M 1 v (ints xs)) (hx : OKS xs) :
    FS C 54 [v] H (fun e H' => ∃ ws MO Mi n', Own 22 1 e ws MO ∧ RowsB Mi ws (grdL xs) ∧ n0 ≤ n' ∧ hasH (MO ++ (Mi ++ M)) n' H') := by
  have h10 := hx.most
  have hv := hS.one_
  have hal := allA_few h10
  refine FS.intro (pf := pf54) rfl rfl rfl ?_
  repeat' (first | refine zP ?_ | refine zA ?_ | (refine zM ?_; intro _ _) | refine zX ?_ | (refine zC ?_; intro _ _ _ _) | (refine zS ?_; intro _ _) | (apply Ws <;> intro hg))
  refine WR.call (by first | exact gN | exact gS rfl) rfl rfl (lists_fs h10 xs.length (Nat.le_refl _) (Mb := []) (b := []) hH (fun p hp => by cases hp) (.nil 0) (fun _ => rfl) (by rw [Nat.sub_self]; rfl) (by simp)) ?_
  rintro e1 H1 ⟨us, MB, Mi, n1, hO1, hR1, hn1, hH1⟩
  rw [List.append_nil] at hR1
  have hU1 : Sl (MB ++ (Mi ++ M)) 1 e1 us := hO1.sl _
  have hul := hR1.1
  obtain ⟨ZS, hZS⟩ : ∃ ZS, allA xs.length = ZS := ⟨_, rfl⟩
  have hZ0 : [] :: T xs.length xs.length [] = ZS := by rw [← hZS]; rfl
  have hgd : grdL xs = ZS.filter (grd xs) := by rw [← hZS]; rfl
  have hasc : ∀ z ∈ ZS, AscN xs.length z := fun z hz => mem_allA.1 (by rw [hZS]; exact hz)
  rw [hZ0] at hR1 hul
  rw [hZS] at hal
  rw [hgd]
  clear hO1 hZS hZ0 hgd
  repeat' (first | refine zP ?_ | refine zA ?_ | (refine zM ?_; intro _ _) | refine zX ?_ | (refine zC ?_; intro _ _ _ _) | (refine zS ?_; intro _ _) | (apply Ws <;> intro hg))
  refine WC.loopX [(0, v), (4, e1)] (fun s : KG => [(5, .int .i64 (s.k : Int)), (3, s.v)]) [] (fun s H' => s.k ≤ ZS.length ∧ Own 22 1 s.v s.ws s.MO ∧ RowsB Mi s.ws ((ZS.take s.k).filter (grd xs)) ∧ n1 ≤ s.n ∧ hasH (s.MO ++ (MB ++ (Mi ++ M))) s.n H') (fun s => ZS.length - s.k) ⟨0, .slice none 0 0, [], [], n1⟩ (by repeat' (first | exact .nil | refine .cons rfl ?_)) rfl ⟨Nat.zero_le _, .nil, RowsB.nil _, Nat.le_refl _, hH1⟩ ?_
  clear hH1
  rintro ⟨k, v3, ws, MO, n2⟩ H2 ⟨hk, hO, hR, hn2, hH2⟩
  simp only at hk hO hR hn2 hH2
  have hU2 := hU1.mono fun q hq => List.mem_append_right MO hq
  have hwl := hR.1
  have hfl := List.length_filter_le (grd xs) (ZS.take k)
  rw [List.length_take] at hfl
  dsimp only [List.cons_append, List.nil_append]
  repeat' (first | refine zP ?_ | refine zA ?_ | (refine zM ?_; intro _ _) | refine zX ?_ | (refine zC ?_; intro _ _ _ _) | (refine zS ?_; intro _ _) | (apply Ws <;> intro hg))
  refine WC.condP rfl (fun hlt => ?_) (fun hlt => ?_)
  · have hk' : k < ZS.length := by omega
    have hku : k < us.length := by omega
    have hts := take_snoc (a := []) hk'
    have hz := hasc _ (getD_mem (a := []) hk')
    have hzl := hz.len
    have hSz : Sl (MO ++ (MB ++ (Mi ++ M))) 1 (us.getD k undef) (nodes (ZS.getD k [])) := (hR1.2 k hk').mono fun q hq => by simp [hq]
    have hu1 := hSz.one_
    have hS2 : Sl (MO ++ (MB ++ (Mi ++ M))) 1 v (ints xs) := hS.mono fun q hq => by simp [hq]
    generalize hzz : ZS.getD k [] = z at hts hz hSz hzl
    have hRz : Sl Mi 1 (us.getD k undef) (nodes z) := by rw [← hzz]; exact hR1.2 k hk'
    repeat' (first | refine zP ?_ | refine zA ?_ | (refine zM ?_; intro _ _) | refine zX ?_ | (refine zC ?_; intro _ _ _ _) | (refine zS ?_; intro _ _) | (apply Ws <;> intro hg))
    refine WR.call (by first | exact gN | exact gS rfl) rfl rfl (rguards_fs hH2 hS2 (by omega) hSz hz.lt (by omega)) ?_
    rintro _ H3 ⟨rfl, n3, hn3, hH3⟩
    clear hH2
    cases hg : grd xs z with
    | true =>
      repeat' (first | refine zP ?_ | refine zA ?_ | (refine zM ?_; intro _ _) | refine zX ?_ | (refine zC ?_; intro _ _ _ _) | (refine zS ?_; intro _ _) | refine zO ?_ | (apply Ws <;> intro hg))
      refine WR.append1F [] MO (MB ++ (Mi ++ M)) rfl rfl rfl rfl hO hH3 (new := [us.getD k undef]) (fill1 hu1) (one1 hu1) rfl (Nat.le_refl _) (by decide) (by simp; omega) fun v' Mx' n' H' q1 q2 q3 => ?_
      repeat' (first | refine zP ?_ | refine zA ?_ | (refine zM ?_; intro _ _) | refine zX ?_ | (refine zC ?_; intro _ _ _ _) | (refine zS ?_; intro _ _) | (apply Ws <;> intro hg))
      refine Ends.loop ⟨k + 1, v', ws ++ [us.getD k undef], Mx', n'⟩ (by simp only; omega) (by repeat' (first | exact .nil | refine .cons rfl ?_)) rfl ⟨hk', q1, ?_, by simp only; omega, q2⟩
      simp only
      rw [hts, List.filter_append, List.filter_cons_of_pos hg]
      exact hR.snoc hRz
    | false =>
      repeat' (first | refine zP ?_ | refine zA ?_ | (refine zM ?_; intro _ _) | refine zX ?_ | (refine zC ?_; intro _ _ _ _) | (refine zS ?_; intro _ _) | refine zO ?_ | (apply Ws <;> intro hg))
      refine Ends.loop ⟨k + 1, v3, ws, MO, n3⟩ (by simp only; omega) (by repeat' (first | exact .nil | refine .cons rfl ?_)) rfl ⟨hk', hO, ?_, by simp only; omega, hH3⟩
      simp only
      rw [hts, List.filter_append, List.filter_cons_of_neg (by rw [hg]; decide), List.filter_nil, List.append_nil]
      exact hR
  · have hkl : k = ZS.length := by omega
    subst hkl
    rw [List.take_length] at hR
    repeat' (first | refine zP ?_ | refine zA ?_ | (refine zM ?_; intro _ _) | refine zX ?_ | (refine zC ?_; intro _ _ _ _) | (refine zS ?_; intro _ _) | (apply Ws <;> intro hg))
    exact Ends.ret1 rfl ⟨ws, MO, Mi, n2, hO, hR, by omega, hH2.perm (M' := MO ++ (Mi ++ (MB ++ M))) (by classical exact List.perm_iff_count.2 (fun a => by simp only [defds, List.map_cons, List.map_nil, List.count_append, List.count_cons, List.count_nil, List.cons_append, List.nil_append, List.append_nil]; omega)) |>.sub (List.Sublist.append_left (List.Sublist.append_left (List.sublist_append_right _ _) _) _)⟩
set_option maxHeartbeats 1000000 in
theorem smallest_fs {Mi : HL} (hH : hasH M n0 H) {us : List Value} {ZS : List (List Nat)} (hS : Sl M 1 v us) (hR1 : RowsB Mi us ZS) (hMi : ∀ p ∈ Mi, p ∈ M) (hal : ZS.length ≤ 5000) (hzl : ∀ z ∈ ZS, z.length ≤ 1000) :
    FS C 53 [v] H (fun e H' => ∃ ws MO n', Own 22 1 e ws MO ∧ RowsB Mi ws (smaL ZS) ∧ n0 ≤ n' ∧ hasH (MO ++ M) n' H') := by
  have hv := hS.one_
  have hul := hR1.1
  refine FS.intro (pf := pf53) rfl rfl rfl ?_
  repeat' (first | refine zP ?_ | refine zA ?_ | (refine zM ?_; intro _ _) | refine zX ?_ | (refine zC ?_; intro _ _ _ _) | (refine zS ?_; intro _ _) | (apply Ws <;> intro hg))
  refine WC.loopX [(0, v)] (fun s : KG => [(4, .int .i64 (s.k : Int)), (3, s.v)]) [] (fun s H' => s.k ≤ ZS.length ∧ Own 22 1 s.v s.ws s.MO ∧ RowsB Mi s.ws (smaL (ZS.take s.k)) ∧ n0 ≤ s.n ∧ hasH (s.MO ++ M) s.n H') (fun s => ZS.length - s.k) ⟨0, .slice none 0 0, [], [], n0⟩ (by repeat' (first | exact .nil | refine .cons rfl ?_)) rfl ⟨Nat.zero_le _, .nil, RowsB.nil _, Nat.le_refl _, hH⟩ ?_
  clear hH
  rintro ⟨k, v3, ws, MO, n2⟩ H2 ⟨hk, hO, hR, hn2, hH2⟩
  simp only at hk hO hR hn2 hH2
  have hU2 := hS.mono fun q hq => List.mem_append_right MO hq
  have hW2 := hO.sl M
  have hwl := hR.1
  have hfl := smaL_len (ZS.take k)
  rw [List.length_take] at hfl
  dsimp only [List.cons_append, List.nil_append]
  repeat' (first | refine zP ?_ | refine zA ?_ | (refine zM ?_; intro _ _) | refine zX ?_ | (refine zC ?_; intro _ _ _ _) | (refine zS ?_; intro _ _) | (apply Ws <;> intro hg))
  refine WC.condP rfl (fun hlt => ?_) (fun hlt => ?_)
  · have hk' : k < ZS.length := by omega
    have hku : k < us.length := by omega
    have hts := take_snoc (a := []) hk'
    have hzll := hzl _ (getD_mem (a := []) hk')
    have hSz : Sl (MO ++ M) 1 (us.getD k undef) (nodes (ZS.getD k [])) := (hR1.2 k hk').mono fun q hq => List.mem_append_right _ (hMi q hq)
    have hu1 := hSz.one_
    have hRz := hR1.2 k hk'
    generalize ZS.getD k [] = z at hts hSz hzll hRz
    have hsn := smaL_snoc (ZS.take k) z
    rw [← hts] at hsn
    have hB10 : ∀ y ∈ smaL (ZS.take k), y.length ≤ 1000 := fun y hy => by
      rw [smaL_best] at hy
      exact hzl y (List.mem_of_mem_take (bestF_all hy).1)
    generalize smaL (ZS.take k) = B at hR hwl hfl hsn hB10
    by_cases hB0 : B = []
    · have hw0 : ws.length = 0 := by rw [hwl, hB0]; rfl
      have e1 : ¬ (B ≠ [] ∧ z.length < (B.getD 0 []).length) := fun h => h.1 hB0
      unfold smaS at hsn
      rw [if_neg e1, if_pos (.inl hB0)] at hsn
      repeat' (first | refine zP ?_ | refine zA ?_ | (refine zM ?_; intro _ _) | refine zX ?_ | (refine zC ?_; intro _ _ _ _) | (refine zS ?_; intro _ _) | refine zO ?_ | (apply Ws <;> intro hg))
      refine WR.append1F [] MO M rfl rfl rfl rfl hO hH2 (new := [us.getD k undef]) (fill1 hu1) (one1 hu1) rfl (Nat.le_refl _) (by decide) (by simp; omega) fun v' Mx' n' H' q1 q2 q3 => ?_
      repeat' (first | refine zP ?_ | refine zA ?_ | (refine zM ?_; intro _ _) | refine zX ?_ | (refine zC ?_; intro _ _ _ _) | (refine zS ?_; intro _ _) | (apply Ws <;> intro hg))
      refine Ends.loop ⟨k + 1, v', ws ++ [us.getD k undef], Mx', n'⟩ (by simp only; omega) (by repeat' (first | exact .nil | refine .cons rfl ?_)) rfl ⟨hk', q1, ?_, by simp only; omega, q2⟩
      simp only
      rw [hsn]
      exact hR.snoc hRz
    · have hw0 : 0 < ws.length := by rw [hwl]; exact List.length_pos_iff.2 hB0
      have hB1 : 0 < B.length := by omega
      have hR0 := hR.2 0 hB1
      have hS0 : Sl (MO ++ M) 1 (ws.getD 0 undef) (nodes (B.getD 0 [])) := hR0.mono fun q hq => List.mem_append_right _ (hMi q hq)
      have hb0 : (B.getD 0 []).length ≤ 1000 := hB10 _ (getD_mem (a := []) hB1)
      unfold smaS at hsn
      generalize B.getD 0 [] = b0 at hS0 hb0 hsn hR0
      by_cases c1 : z.length < b0.length
      · rw [if_pos ⟨hB0, c1⟩] at hsn
        repeat' (first | refine zP ?_ | refine zA ?_ | (refine zM ?_; intro _ _) | refine zX ?_ | (refine zC ?_; intro _ _ _ _) | (refine zS ?_; intro _ _) | refine zO ?_ | (apply Ws <;> intro hg))
        refine WR.append1F [] [] (MO ++ M) rfl rfl rfl rfl (.nil (e := 22) (sz := 1)) hH2 (new := [us.getD k undef]) (fill1 hu1) (one1 hu1) rfl (Nat.le_refl _) (by decide) (by simp) fun v' Mx' n' H' q1 q2 q3 => ?_
        repeat' (first | refine zP ?_ | refine zA ?_ | (refine zM ?_; intro _ _) | refine zX ?_ | (refine zC ?_; intro _ _ _ _) | (refine zS ?_; intro _ _) | (apply Ws <;> intro hg))
        refine Ends.loop ⟨k + 1, v', [us.getD k undef], Mx', n'⟩ (by simp only; omega) (by repeat' (first | exact .nil | refine .cons rfl ?_)) rfl ⟨hk', q1, ?_, by simp only; omega, q2.sub (List.Sublist.append_left (List.sublist_append_right _ _) _)⟩
        simp only
        rw [hsn]
        exact RowsB.snoc (RowsB.nil _) hRz
      · have e1 : ¬ (B ≠ [] ∧ z.length < b0.length) := fun h => c1 h.2
        rw [if_neg e1] at hsn
        by_cases c2 : z.length = b0.length
        · rw [if_pos (.inr c2)] at hsn
          repeat' (first | refine zP ?_ | refine zA ?_ | (refine zM ?_; intro _ _) | refine zX ?_ | (refine zC ?_; intro _ _ _ _) | (refine zS ?_; intro _ _) | refine zO ?_ | (apply Ws <;> intro hg))
          refine WR.append1F [] MO M rfl rfl rfl rfl hO hH2 (new := [us.getD k undef]) (fill1 hu1) (one1 hu1) rfl (Nat.le_refl _) (by decide) (by simp; omega) fun v' Mx' n' H' q1 q2 q3 => ?_
          repeat' (first | refine zP ?_ | refine zA ?_ | (refine zM ?_; intro _ _) | refine zX ?_ | (refine zC ?_; intro _ _ _ _) | (refine zS ?_; intro _ _) | (apply Ws <;> intro hg))
          refine Ends.loop ⟨k + 1, v', ws ++ [us.getD k undef], Mx', n'⟩ (by simp only; omega) (by repeat' (first | exact .nil | refine .cons rfl ?_)) rfl ⟨hk', q1, ?_, by simp only; omega, q2⟩
          simp only
          rw [hsn]
          exact hR.snoc hRz
        · have e2 : ¬ (B = [] ∨ z.length = b0.length) := by rintro (h | h); exact hB0 h; exact c2 h
          rw [if_neg e2] at hsn
          repeat' (first | refine zP ?_ | refine zA ?_ | (refine zM ?_; intro _ _) | refine zX ?_ | (refine zC ?_; intro _ _ _ _) | (refine zS ?_; intro _ _) | refine zO ?_ | (apply Ws <;> intro hg))
          refine Ends.loop ⟨k + 1, v3, ws, MO, n2⟩ (by simp only; omega) (by repeat' (first | exact .nil | refine .cons rfl ?_)) rfl ⟨hk', hO, ?_, by simp only; omega, hH2⟩
          simp only
          rw [hsn]; exact hR
  · have hkl : k = ZS.length := by omega
    subst hkl
    rw [List.take_length] at hR
    repeat' (first | refine zP ?_ | refine zA ?_ | (refine zM ?_; intro _ _) | refine zX ?_ | (refine zC ?_; intro _ _ _ _) | (refine zS ?_; intro _ _) | (apply Ws <;> intro hg))
    exact Ends.ret1 rfl ⟨ws, MO, n2, hO, hR, hn2, hH2⟩
end
end Go.Proofs.Ytcfffhkabhmkmaa.Ps

/- The reference: fewest, ways, count, always, never, apart, cheapest. -/
namespace Go.Proofs.Ytcfffhkabhmkmaa.Ps
open Go Go.Abs Go.Mth
set_option linter.unusedVariables false
set_option linter.unusedSimpArgs false
def lonA (xs : List Int) (zs : List (List Nat)) : List Nat := fstB (sumZ fun _ => -1) (zs.filter (apt xs))
theorem lonA_step (xs : List Int) (zs : List (List Nat)) (z : List Nat) : lonA xs (zs ++ [z]) = if (lonA xs zs).length < z.length ∧ apt xs z = true then z else lonA xs zs := by
  unfold lonA
  rw [List.filter_append]
  by_cases ha : apt xs z = true
  · rw [List.filter_cons_of_pos ha, List.filter_nil, fstB_step]
    rw [sumZ_neg, sumZ_neg]
    generalize zs.filter (apt xs) = ys
    by_cases h0 : ys = []
    · subst h0
      rw [if_pos (.inl rfl)]
      by_cases hz : z = []
      · subst hz; rw [if_neg (by simp [fstB, bestF])]; simp [fstB, bestF]
      · rw [if_pos ⟨by have := List.length_pos_iff.2 hz; simp [fstB, bestF]; omega, ha⟩]
    · by_cases hl : (fstB (sumZ fun _ => -1) ys).length < z.length
      · rw [if_pos (.inr (by omega)), if_pos ⟨hl, ha⟩]
      · have e1 : ¬ (ys = [] ∨ -(z.length : Int) < -((fstB (sumZ fun _ => -1) ys).length : Int)) := by rintro (h | h); exact h0 h; omega
        have e2 : ¬ ((fstB (sumZ fun _ => -1) ys).length < z.length ∧ apt xs z = true) := fun h => hl h.1
        rw [if_neg e1, if_neg e2]
  · rw [List.filter_cons_of_neg ha, List.filter_nil, List.append_nil, if_neg (fun h => ha h.2)]
theorem lonA_all (xs : List Int) : lonA xs (allA xs.length) = (aptB xs).getD 0 [] := rfl
theorem lonA_asc {xs : List Int} {zs : List (List Nat)} (h : ∀ z ∈ zs, z.length ≤ 10) : (lonA xs zs).length ≤ 10 := by
  unfold lonA
  by_cases h0 : zs.filter (apt xs) = []
  · rw [h0]; simp [fstB, bestF]
  · exact h _ (List.mem_filter.1 (bestF_all (fstB_mem h0)).1).1
structure KA where
  k : Nat
  u : Value
  n : Nat
attribute [local irreducible] gOK WS WC WR WD Ends FS YS OpV seqK blockK loopK midK retK rdK asgK rangeEnd sat Cell
section
variable {M : HL} {n0 : Nat} {H : Heap} {v w : Value}
theorem rCost_fs (hH : hasH M n0 H) {ps : List Int} {z : List Nat} (hS : Sl M 1 v (ints ps)) (hU : Sl M 1 w (nodes z)) (hz : ∀ x ∈ z, x < ps.length) (hb : ∀ x, x < ps.length → -20 ≤ ps.getD x 0 ∧ ps.getD x 0 ≤ 20) (hl : z.length ≤ 1000) :
    FS C 58 [v, w] H (fun e H' => e = .int .i64 (sumZ (fun x => ps.getD x 0) z) ∧ H' = H) := by
  have hv := hS.one_
  have hw := hU.one_
  refine FS.intro (pf := pf58) rfl rfl rfl ?_
  repeat' (first | refine zP ?_ | refine zA ?_ | (refine zM ?_; intro _ _) | refine zX ?_ | (refine zC ?_; intro _ _ _ _) | (refine zS ?_; intro _ _) | (apply Ws <;> intro hg))
  refine WC.loopX [(0, v), (1, w)] (fun k : Nat => [(6, .int .i64 (k : Int)), (5, .int .i64 (sumZ (fun x => ps.getD x 0) (z.take k)))]) [] (fun k H' => k ≤ z.length ∧ H' = H) (fun k => z.length - k) 0 (by repeat' (first | exact .nil | refine .cons rfl ?_)) rfl ⟨Nat.zero_le _, rfl⟩ ?_
  rintro k H' ⟨hk, rfl⟩
  have hbd := sumZ_bd (c := fun x => ps.getD x 0) (z := z.take k) fun x hx => hb x (hz x (List.mem_of_mem_take hx))
  have htl : (z.take k).length ≤ 1000 := by simp; omega
  dsimp only [List.cons_append, List.nil_append]
  repeat' (first | refine zP ?_ | refine zA ?_ | (refine zM ?_; intro _ _) | refine zX ?_ | (refine zC ?_; intro _ _ _ _) | (refine zS ?_; intro _ _) | (apply Ws <;> intro hg))
  refine WC.condP rfl (fun hlt => ?_) (fun hlt => ?_)
  · have hk' : k < z.length := by omega
    have hx := hz _ (getD_mem (a := 0) hk')
    have htk := take_snoc (a := 0) hk'
    have hcx := hb _ hx
    have hss := sumZ_snoc (fun x => ps.getD x 0) (z.take k) (z.getD k 0)
    rw [← htk] at hss
    generalize sumZ (fun x => ps.getD x 0) (z.take k) = s at hbd hss ⊢
    repeat' (first | refine zP ?_ | refine zA ?_ | (refine zM ?_; intro _ _) | refine zX ?_ | (refine zC ?_; intro _ _ _ _) | (refine zS ?_; intro _ _) | (apply Ws <;> intro hg))
    exact Ends.loop (k + 1) (by omega) (by rw [hss]; exact (by repeat' (first | exact .nil | refine .cons rfl ?_))) rfl ⟨hk', rfl⟩
  · have hkl : k = z.length := by omega
    subst hkl
    rw [List.take_length]
    repeat' (first | refine zP ?_ | refine zA ?_ | (refine zM ?_; intro _ _) | refine zX ?_ | (refine zC ?_; intro _ _ _ _) | (refine zS ?_; intro _ _) | (apply Ws <;> intro hg))
    exact Ends.ret1 rfl ⟨rfl, rfl⟩
theorem rFewest_fs (hH : hasH M n0 H) {xs : List Int} (hS : Sl M 1 v (ints xs)) (hl : xs.length ≤ 100000) :
    FS C 19 [v] H (fun e H' => ∃ u M2 n', e = .tuple #[u, .int .i64 (errS xs)] ∧ Sl (M2 ++ M) 1 u (nodes (if errS xs = 0 then (fewB xs).getD 0 [] else [])) ∧ n0 ≤ n' ∧ hasH (M2 ++ M) n' H') := by
  have hv := hS.one_
  refine FS.intro (pf := pf19) rfl rfl rfl ?_
  repeat' (first | refine zP ?_ | refine zA ?_ | (refine zM ?_; intro _ _) | refine zX ?_ | (refine zC ?_; intro _ _ _ _) | (refine zS ?_; intro _ _) | (apply Ws <;> intro hg))
  refine WR.call (by first | exact gN | exact gS rfl) rfl rfl (rCheck_fs hH hS hl) ?_
  rintro _ H1 ⟨rfl, rfl⟩
  repeat' (first | refine zP ?_ | refine zA ?_ | (refine zM ?_; intro _ _) | refine zX ?_ | (refine zC ?_; intro _ _ _ _) | (refine zS ?_; intro _ _) | (apply Ws <;> intro hg))
  refine WC.condP rfl (fun h0 => ?_) (fun h0 => ?_)
  · repeat' (first | refine zP ?_ | refine zA ?_ | (refine zM ?_; intro _ _) | refine zX ?_ | (refine zC ?_; intro _ _ _ _) | (refine zS ?_; intro _ _) | (apply Ws <;> intro hg))
    exact Ends.ret2 rfl rfl ⟨_, [], n0, rfl, by rw [if_neg h0]; exact .nil 0, Nat.le_refl _, hH⟩
  · have h00 : errS xs = 0 := by omega
    have hx := errS_zero.1 h00
    have h10 := hx.most
    have hgl : (grdL xs).length ≤ 5000 := Nat.le_trans (List.length_filter_le _ _) (allA_few h10)
    repeat' (first | refine zP ?_ | refine zA ?_ | (refine zM ?_; intro _ _) | refine zX ?_ | (refine zC ?_; intro _ _ _ _) | (refine zS ?_; intro _ _) | (apply Ws <;> intro hg))
    refine WR.call (by first | exact gN | exact gS rfl) rfl rfl (guarding_fs hH hS hx) ?_
    rintro e2 H2 ⟨us, MO, Mi, n2, hO, hR, hn2, hH2⟩
    refine WR.call (by first | exact gN | exact gS rfl) rfl rfl (smallest_fs (Mi := Mi) hH2 (hO.sl _) hR (fun p hp => by simp [hp]) hgl (fun z hz => by have := (grdL_asc z hz).len; omega)) ?_
    rintro e3 H3 ⟨ws, MP, n3, hP, hR3, hn3, hH3⟩
    rw [smaL_best] at hR3
    have hne := List.length_pos_iff.2 (fewB_ne xs)
    have hwl := hR3.1
    have hR0 := hR3.2 0 hne
    have hws : 0 < ws.length := by rw [hwl]; exact hne
    have hW := hP.sl (MO ++ (Mi ++ M))
    repeat' (first | refine zP ?_ | refine zA ?_ | (refine zM ?_; intro _ _) | refine zX ?_ | (refine zC ?_; intro _ _ _ _) | (refine zS ?_; intro _ _) | (apply Ws <;> intro hg))
    refine Ends.ret2 rfl rfl ⟨_, MP ++ (MO ++ Mi), n3, by rw [h00], ?_, by omega, hH3.perm (by classical exact List.perm_iff_count.2 (fun a => by simp only [defds, List.map_cons, List.map_nil, List.count_append, List.count_cons, List.count_nil, List.cons_append, List.nil_append, List.append_nil]; omega))⟩
    rw [if_pos h00]
    exact hR0.mono fun q hq => by simp [hq]
end
end Go.Proofs.Ytcfffhkabhmkmaa.Ps

/- The reference: always, never, apart, cheapest; the laws PostCounts and PostFewest. -/
namespace Go.Proofs.Ytcfffhkabhmkmaa.Ps
open Go Go.Abs Go.Mth
set_option linter.unusedVariables false
set_option linter.unusedSimpArgs false
attribute [local irreducible] gOK WS WC WR WD Ends FS YS OpV seqK blockK loopK midK retK rdK asgK rangeEnd sat Cell
section
variable {M : HL} {n0 : Nat} {H : Heap} {v w : Value}
set_option maxHeartbeats 1000000 in
theorem rApart_fs (hH : hasH M n0 H) {xs : List Int} (hS : Sl M 1 v (ints xs)) (hl : xs.length ≤ 100000) :
    FS C 21 [v] H (fun e H' => ∃ u M2 n', e = .tuple #[u, .int .i64 (errS xs)] ∧ Sl (M2 ++ M) 1 u (nodes (if errS xs = 0 then (aptB xs).getD 0 [] else [])) ∧ n0 ≤ n' ∧ hasH (M2 ++ M) n' H') := by
  have hv := hS.one_
  refine FS.intro (pf := pf21) rfl rfl rfl ?_
  repeat' (first | refine zP ?_ | refine zA ?_ | (refine zM ?_; intro _ _) | refine zX ?_ | (refine zC ?_; intro _ _ _ _) | (refine zS ?_; intro _ _) | (apply Ws <;> intro hg))
  refine WR.call (by first | exact gN | exact gS rfl) rfl rfl (rCheck_fs hH hS hl) ?_
  rintro _ H1 ⟨rfl, rfl⟩
  repeat' (first | refine zP ?_ | refine zA ?_ | (refine zM ?_; intro _ _) | refine zX ?_ | (refine zC ?_; intro _ _ _ _) | (refine zS ?_; intro _ _) | (apply Ws <;> intro hg))
  refine WC.condP rfl (fun h0 => ?_) (fun h0 => ?_)
  · repeat' (first | refine zP ?_ | refine zA ?_ | (refine zM ?_; intro _ _) | refine zX ?_ | (refine zC ?_; intro _ _ _ _) | (refine zS ?_; intro _ _) | (apply Ws <;> intro hg))
    exact Ends.ret2 rfl rfl ⟨_, [], n0, rfl, by rw [if_neg h0]; exact .nil 0, Nat.le_refl _, hH⟩
  · have h00 : errS xs = 0 := by omega
    have hx := errS_zero.1 h00
    have h10 := hx.most
    have hal := allA_few h10
    repeat' (first | refine zP ?_ | refine zA ?_ | (refine zM ?_; intro _ _) | refine zX ?_ | (refine zC ?_; intro _ _ _ _) | (refine zS ?_; intro _ _) | (apply Ws <;> intro hg))
    refine WR.call (by first | exact gN | exact gS rfl) rfl rfl (lists_fs h10 xs.length (Nat.le_refl _) (Mb := []) (b := []) hH (fun p hp => by cases hp) (.nil 0) (fun _ => rfl) (by rw [Nat.sub_self]; rfl) (by simp)) ?_
    rintro e1 H2 ⟨us, MB, Mi, n1, hO1, hR1, hn1, hH1⟩
    rw [List.append_nil] at hR1
    have hU1 : Sl (MB ++ (Mi ++ M)) 1 e1 us := hO1.sl _
    have hul := hR1.1
    rw [if_pos h00, ← lonA_all]
    obtain ⟨ZS, hZS⟩ : ∃ ZS, allA xs.length = ZS := ⟨_, rfl⟩
    have hZ0 : [] :: T xs.length xs.length [] = ZS := by rw [← hZS]; rfl
    have hasc : ∀ z ∈ ZS, AscN xs.length z := fun z hz => mem_allA.1 (by rw [hZS]; exact hz)
    rw [hZ0] at hR1 hul
    rw [hZS] at hal ⊢
    have hSX : Sl (MB ++ (Mi ++ M)) 1 v (ints xs) := hS.mono fun q hq => by simp [hq]
    have hMX : MB ++ (Mi ++ M) = (MB ++ Mi) ++ M := by simp
    have hRX : RowsB (MB ++ (Mi ++ M)) us ZS := hR1.mono fun q hq => by simp [hq]
    generalize MB ++ (Mi ++ M) = X at hH1 hU1 hSX hMX hRX
    clear hO1 hZS hZ0 hR1 hH hS
    have he1 := hU1.one_
    repeat' (first | refine zP ?_ | refine zA ?_ | (refine zM ?_; intro _ _) | refine zX ?_ | (refine zC ?_; intro _ _ _ _) | (refine zS ?_; intro _ _) | (apply Ws <;> intro hg))
    refine WC.loopX [(0, v), (3, _), (6, e1)] (fun s : KA => [(7, .int .i64 (s.k : Int)), (5, s.u)]) [] (fun s H' => s.k ≤ ZS.length ∧ Sl X 1 s.u (nodes (lonA xs (ZS.take s.k))) ∧ n1 ≤ s.n ∧ hasH X s.n H') (fun s => ZS.length - s.k) ⟨0, .slice none 0 0, n1⟩ (by repeat' (first | exact .nil | refine .cons rfl ?_)) rfl ⟨Nat.zero_le _, .nil 0, Nat.le_refl _, hH1⟩ ?_
    clear hH1
    rintro ⟨k, u5, n2⟩ H3 ⟨hk, hSu, hn2, hH⟩
    simp only at hk hSu hn2 hH
    dsimp only [List.cons_append, List.nil_append]
    repeat' (first | refine zP ?_ | refine zA ?_ | (refine zM ?_; intro _ _) | refine zX ?_ | (refine zC ?_; intro _ _ _ _) | (refine zS ?_; intro _ _) | (apply Ws <;> intro hg))
    refine WC.condP rfl (fun hlt => ?_) (fun hlt => ?_)
    · have hk' : k < ZS.length := by omega
      have hku : k < us.length := by omega
      have hts := take_snoc (a := []) hk'
      have hz := hasc _ (getD_mem (a := []) hk')
      have hzl := hz.len
      have hSz := hRX.2 k hk'
      have hst := lonA_step xs (ZS.take k) (ZS.getD k [])
      rw [← hts] at hst
      have hll := lonA_asc (xs := xs) (zs := ZS.take k) fun z hz => by have := (hasc z (List.mem_of_mem_take hz)).len; omega
      generalize ZS.getD k [] = z at hz hzl hSz hst
      generalize lonA xs (ZS.take k) = y at hSu hst hll
      by_cases hyz : y.length < z.length
      · repeat' (first | refine zP ?_ | refine zA ?_ | (refine zM ?_; intro _ _) | refine zX ?_ | (refine zC ?_; intro _ _ _ _) | (refine zS ?_; intro _ _) | refine zO ?_ | (apply Ws <;> intro hg))
        refine WR.call (by first | exact gN | exact gS rfl) rfl rfl (rapart_fs hH hSX (by omega) hSz hz.lt (by omega)) ?_
        rintro _ H4 ⟨rfl, n4, hn4, hH4⟩
        cases ha : apt xs z with
        | true =>
          rw [if_pos ⟨hyz, ha⟩] at hst
          repeat' (first | refine zP ?_ | refine zA ?_ | (refine zM ?_; intro _ _) | refine zX ?_ | (refine zC ?_; intro _ _ _ _) | (refine zS ?_; intro _ _) | refine zO ?_ | (apply Ws <;> intro hg))
          exact Ends.loop ⟨k + 1, _, n4⟩ (by simp only; omega) (by repeat' (first | exact .nil | refine .cons rfl ?_)) rfl ⟨hk', by simp only; rw [hst]; exact hSz, by simp only; omega, hH4⟩
        | false =>
          rw [if_neg (fun h => by rw [ha] at h; cases h.2)] at hst
          repeat' (first | refine zP ?_ | refine zA ?_ | (refine zM ?_; intro _ _) | refine zX ?_ | (refine zC ?_; intro _ _ _ _) | (refine zS ?_; intro _ _) | refine zO ?_ | (apply Ws <;> intro hg))
          exact Ends.loop ⟨k + 1, u5, n4⟩ (by simp only; omega) (by repeat' (first | exact .nil | refine .cons rfl ?_)) rfl ⟨hk', by simp only; rw [hst]; exact hSu, by simp only; omega, hH4⟩
      · rw [if_neg (fun h => hyz h.1)] at hst
        repeat' (first | refine zP ?_ | refine zA ?_ | (refine zM ?_; intro _ _) | refine zX ?_ | (refine zC ?_; intro _ _ _ _) | (refine zS ?_; intro _ _) | refine zO ?_ | (apply Ws <;> intro hg))
        exact Ends.loop ⟨k + 1, u5, n2⟩ (by simp only; omega) (by repeat' (first | exact .nil | refine .cons rfl ?_)) rfl ⟨hk', by simp only; rw [hst]; exact hSu, by simp only; omega, hH⟩
    · have hkl : k = ZS.length := by omega
      subst hkl
      rw [List.take_length] at hSu
      repeat' (first | refine zP ?_ | refine zA ?_ | (refine zM ?_; intro _ _) | refine zX ?_ | (refine zC ?_; intro _ _ _ _) | (refine zS ?_; intro _ _) | (apply Ws <;> intro hg))
      exact Ends.ret2 rfl rfl ⟨_, MB ++ Mi, n2, by rw [h00], by rw [← hMX]; exact hSu, by omega, by rw [← hMX]; exact hH⟩
end
end Go.Proofs.Ytcfffhkabhmkmaa.Ps

/- The reference's cheapest; the law PostFewest. -/
namespace Go.Proofs.Ytcfffhkabhmkmaa.Ps
open Go Go.Abs Go.Mth
set_option linter.unusedVariables false
set_option linter.unusedSimpArgs false
structure KQ where
  k : Nat
  e : Int
theorem errR_pos {xs ps : List Int} (h0 : errS xs = 0) (hl : ps.length = xs.length) : errR xs ps = firstE (errC ps) ps.length := by unfold errR; rw [if_neg (by omega), if_neg (by omega)]
theorem use_tail {C : CW} {ro : Option Nat} {fn : FuncId} {nt : Nat} {α : Type} {P : α → Heap → Prop} {E : α → Env} {code : PC} {K : Ex → St → Prop} {G : Prop} (tail : ∀ s H', P s H' → WC C ro fn nt code (E s) [] H' K) (main : (∀ s H', P s H' → WC C ro fn nt code (E s) [] H' K) → G) : G := main tail
def ErrW (xs ps : List Int) (k : Nat) (e : Int) : Prop := (e = errR xs ps ∧ e ≠ 0) ∨ (e = 0 ∧ errS xs = 0 ∧ ps.length = xs.length ∧ firstE (errC ps) k = 0)
attribute [local irreducible] gOK WS WC WR WD Ends FS YS OpV seqK blockK loopK midK retK rdK asgK rangeEnd sat Cell
section
variable {M : HL} {n0 : Nat} {H : Heap} {v w : Value}
set_option maxHeartbeats 2000000 in
theorem rCheapest_fs (hH : hasH M n0 H) {xs ps : List Int} (hS : Sl M 1 v (ints xs)) (hl : xs.length ≤ 100000) (hU : Sl M 1 w (ints ps)) (hpl : ps.length ≤ 100000) :
    FS C 23 [v, w] H (fun e H' => ∃ u M2 n', e = .tuple #[u, .int .i64 (errR xs ps)] ∧ Sl (M2 ++ M) 1 u (nodes (if errR xs ps = 0 then (prcB xs ps).getD 0 [] else [])) ∧ n0 ≤ n' ∧ hasH (M2 ++ M) n' H') := by
  have hw := hU.one_
  have hv := hS.one_
  refine FS.intro (pf := pf23) rfl rfl rfl ?_
  repeat' (first | refine zP ?_ | refine zA ?_ | (refine zM ?_; intro _ _) | refine zX ?_ | (refine zC ?_; intro _ _ _ _) | (refine zS ?_; intro _ _) | (apply Ws <;> intro hg))
  refine WR.call (by first | exact gN | exact gS rfl) rfl rfl (rCheck_fs hH hS hl) ?_
  rintro _ H1 ⟨rfl, rfl⟩
  apply use_tail (C := C) (ro := none) (fn := 23) (nt := pf23.nt) (α := Int) (P := fun e H' => H' = H1 ∧ ErrW xs ps 0 e) (E := fun e => [(7, .int .i64 0), (6, .int .i64 e), (0, v), (1, w)])
  case main =>
    intro htail
    by_cases h0 : errS xs = 0
    · rw [h0]
      by_cases hlen : ps.length = xs.length
      · repeat' (first | refine zP ?_ | refine zA ?_ | (refine zM ?_; intro _ _) | refine zX ?_ | (refine zC ?_; intro _ _ _ _) | (refine zS ?_; intro _ _) | refine zO ?_ | (apply Ws <;> intro hg))
        exact (htail 0 _ ⟨rfl, .inr ⟨rfl, h0, hlen, rfl⟩⟩).weaken (by repeat' (first | exact .nil | refine .cons rfl ?_))
      · have hE : errR xs ps = 5 := by unfold errR; rw [if_neg (by omega), if_pos hlen]
        repeat' (first | refine zP ?_ | refine zA ?_ | (refine zM ?_; intro _ _) | refine zX ?_ | (refine zC ?_; intro _ _ _ _) | (refine zS ?_; intro _ _) | refine zO ?_ | (apply Ws <;> intro hg))
        exact (htail 5 _ ⟨rfl, .inl ⟨hE.symm, by decide⟩⟩).weaken (by repeat' (first | exact .nil | refine .cons rfl ?_))
    · have hE : errR xs ps = errS xs := by unfold errR; rw [if_pos h0]
      repeat' (first | refine zP ?_ | refine zA ?_ | (refine zM ?_; intro _ _) | refine zX ?_ | (refine zC ?_; intro _ _ _ _) | (refine zS ?_; intro _ _) | refine zO ?_ | (apply Ws <;> intro hg))
      exact (htail _ _ ⟨rfl, .inl ⟨hE.symm, h0⟩⟩).weaken (by repeat' (first | exact .nil | refine .cons rfl ?_))
  case tail =>
    rintro e0 H' ⟨rfl, hinit⟩
    refine WC.loopX [(0, v), (1, w)] (fun s : KQ => [(7, .int .i64 (s.k : Int)), (6, .int .i64 s.e)]) [] (fun s H2 => H2 = H' ∧ s.k ≤ ps.length ∧ ErrW xs ps s.k s.e) (fun s => ps.length - s.k) ⟨0, e0⟩ (by repeat' (first | exact .nil | refine .cons rfl ?_)) rfl ⟨rfl, Nat.zero_le _, hinit⟩ ?_
    clear hinit
    rintro ⟨k, e6⟩ H2 ⟨rfl, hk, hst⟩
    simp only at hk hst
    dsimp only [List.cons_append, List.nil_append]
    rcases hst with ⟨h1, h2⟩ | ⟨h1, h2, h3, h4⟩
    · repeat' (first | refine zP ?_ | refine zA ?_ | (refine zM ?_; intro _ _) | refine zX ?_ | (refine zC ?_; intro _ _ _ _) | (refine zS ?_; intro _ _) | (apply Ws <;> intro hg))
      · repeat' (first | refine zP ?_ | refine zA ?_ | (refine zM ?_; intro _ _) | refine zX ?_ | (refine zC ?_; intro _ _ _ _) | (refine zS ?_; intro _ _) | refine zO ?_ | (apply Ws <;> intro hg))
        exact Ends.ret2 rfl rfl ⟨_, [], n0, by rw [h1], by rw [← h1, if_neg h2]; exact .nil 0, Nat.le_refl _, hH⟩
      · repeat' (first | refine zP ?_ | refine zA ?_ | (refine zM ?_; intro _ _) | refine zX ?_ | (refine zC ?_; intro _ _ _ _) | (refine zS ?_; intro _ _) | refine zO ?_ | (apply Ws <;> intro hg))
        exact Ends.ret2 rfl rfl ⟨_, [], n0, by rw [h1], by rw [← h1, if_neg h2]; exact .nil 0, Nat.le_refl _, hH⟩
    · subst h1
      have hER := errR_pos h2 h3
      by_cases hlt : k < ps.length
      · repeat' (first | refine zP ?_ | refine zA ?_ | (refine zM ?_; intro _ _) | refine zX ?_ | (refine zC ?_; intro _ _ _ _) | (refine zS ?_; intro _ _) | refine zO ?_ | (apply Ws <;> intro hg))
        refine WR.call (by first | exact gN | exact gS rfl) rfl rfl (in_fs _ _ _ _) ?_
        rintro _ _ ⟨rfl, rfl⟩
        by_cases hp : 1 ≤ ps.getD k 0 ∧ ps.getD k 0 ≤ 20
        · repeat' (first | refine zP ?_ | refine zA ?_ | (refine zM ?_; intro _ _) | refine zX ?_ | (refine zC ?_; intro _ _ _ _) | (refine zS ?_; intro _ _) | refine zO ?_ | (apply Ws <;> intro hg))
          exact Ends.loop ⟨k + 1, 0⟩ (by simp only; omega) (by repeat' (first | exact .nil | refine .cons rfl ?_)) rfl ⟨rfl, hlt, .inr ⟨rfl, h2, h3, firstE_succ h4 (by unfold errC; rw [if_neg (by omega)])⟩⟩
        · have hE : errC ps k = 1 := by unfold errC; rw [if_pos (by omega)]
          rw [firstE_at h4 (by rw [hE]; decide) hlt, hE] at hER
          repeat' (first | refine zP ?_ | refine zA ?_ | (refine zM ?_; intro _ _) | refine zX ?_ | (refine zC ?_; intro _ _ _ _) | (refine zS ?_; intro _ _) | refine zO ?_ | (apply Ws <;> intro hg))
          exact Ends.loop ⟨k + 1, 1⟩ (by simp only; omega) (by repeat' (first | exact .nil | refine .cons rfl ?_)) rfl ⟨rfl, hlt, .inl ⟨hER.symm, by simp⟩⟩
      · have hkl : k = ps.length := by omega
        subst hkl
        rw [h4] at hER
        obtain ⟨hx, hp⟩ := errR_zero.1 hER
        have h10 := hx.most
        have hgl : (grdL xs).length ≤ 5000 := Nat.le_trans (List.length_filter_le _ _) (allA_few h10)
        rw [hER, if_pos rfl]
        repeat' (first | refine zP ?_ | refine zA ?_ | (refine zM ?_; intro _ _) | refine zX ?_ | (refine zC ?_; intro _ _ _ _) | (refine zS ?_; intro _ _) | refine zO ?_ | (apply Ws <;> intro hg))
        refine WR.call (by first | exact gN | exact gS rfl) rfl rfl (guarding_fs hH hS hx) ?_
        rintro e8 H3 ⟨us, MO, Mi, n3, hO, hR, hn3, hH3⟩
        have hne := grdL_ne xs
        have hasc := grdL_asc (xs := xs)
        have hprc : (prcB xs ps).getD 0 [] = fstB (sumZ fun x => ps.getD x 0) (grdL xs) := rfl
        rw [hprc]
        have hSX : Sl (MO ++ (Mi ++ M)) 1 v (ints xs) := hS.mono fun q hq => by simp [hq]
        have hUX : Sl (MO ++ (Mi ++ M)) 1 w (ints ps) := hU.mono fun q hq => by simp [hq]
        have hMX : MO ++ (Mi ++ M) = (MO ++ Mi) ++ M := by simp
        have hRX : RowsB (MO ++ (Mi ++ M)) us (grdL xs) := hR.mono fun q hq => by simp [hq]
        have hWX := hO.sl (Mi ++ M)
        generalize MO ++ (Mi ++ M) = X at hH3 hSX hUX hMX hRX hWX
        generalize grdL xs = G at hgl hne hasc hRX ⊢
        clear hH hS hU hO hR
        have hul := hRX.1
        have hg0 : 0 < G.length := List.length_pos_iff.2 hne
        have hu0 : 0 < us.length := by omega
        have he8 := hWX.one_
        have hS0 := hRX.2 0 hg0
        have hf1 : fstB (sumZ fun x => ps.getD x 0) (G.take 1) = G.getD 0 [] := by
          have := fstB_step (sumZ fun x => ps.getD x 0) [] (G.getD 0 [])
          rw [if_pos (.inl rfl), List.nil_append] at this
          have h2 := take_snoc (a := []) hg0
          rw [List.take_zero, List.nil_append, Nat.zero_add] at h2
          rw [h2]; exact this
        repeat' (first | refine zP ?_ | refine zA ?_ | (refine zM ?_; intro _ _) | refine zX ?_ | (refine zC ?_; intro _ _ _ _) | (refine zS ?_; intro _ _) | (apply Ws <;> intro hg))
        refine WC.loopX [(0, v), (1, w), (8, e8)] (fun s : KA => [(10, .int .i64 (s.k : Int)), (9, s.u)]) [] (fun s H' => 1 ≤ s.k ∧ s.k ≤ G.length ∧ Sl X 1 s.u (nodes (fstB (sumZ fun x => ps.getD x 0) (G.take s.k))) ∧ hasH X n3 H') (fun s => G.length - s.k) ⟨1, us.getD 0 undef, 0⟩ (by repeat' (first | exact .nil | refine .cons rfl ?_)) rfl ⟨Nat.le_refl _, hg0, by simp only; rw [hf1]; exact hS0, hH3⟩ ?_
        clear hH3
        rintro ⟨k, u9, _⟩ H4 ⟨hk1, hk, hSu, hH⟩
        simp only at hk1 hk hSu hH
        dsimp only [List.cons_append, List.nil_append]
        repeat' (first | refine zP ?_ | refine zA ?_ | (refine zM ?_; intro _ _) | refine zX ?_ | (refine zC ?_; intro _ _ _ _) | (refine zS ?_; intro _ _) | (apply Ws <;> intro hg))
        refine WC.condP rfl (fun hlt2 => ?_) (fun hlt2 => ?_)
        · have hk' : k < G.length := by omega
          have hku : k < us.length := by omega
          have hts := take_snoc (a := []) hk'
          have hz := hasc _ (getD_mem (a := []) hk')
          have hzl := hz.len
          have hSz := hRX.2 k hk'
          have htn : G.take k ≠ [] := fun h => by have := congrArg List.length h; rw [List.length_take, List.length_nil] at this; omega
          have hst := fstB_step (sumZ fun x => ps.getD x 0) (G.take k) (G.getD k [])
          rw [← hts] at hst
          have hy := hasc _ (List.mem_of_mem_take (bestF_all (fstB_mem (c := sumZ fun x => ps.getD x 0) htn)).1)
          have hyl := hy.len
          generalize G.getD k [] = z at hz hzl hSz hst
          generalize fstB (sumZ fun x => ps.getD x 0) (G.take k) = y at hSu hst hy hyl
          have hbp : ∀ x, x < ps.length → -20 ≤ ps.getD x 0 ∧ ps.getD x 0 ≤ 20 := fun x hxl => by have := hp.bd x hxl; omega
          have hcz := sumZ_bd (c := fun x => ps.getD x 0) (z := z) fun x hx => hbp x (by have := hz.lt x hx; omega)
          have hcy := sumZ_bd (c := fun x => ps.getD x 0) (z := y) fun x hx => hbp x (by have := hy.lt x hx; omega)
          repeat' (first | refine zP ?_ | refine zA ?_ | (refine zM ?_; intro _ _) | refine zX ?_ | (refine zC ?_; intro _ _ _ _) | (refine zS ?_; intro _ _) | (apply Ws <;> intro hg))
          refine WR.call (by first | exact gN | exact gS rfl) rfl rfl (rCost_fs hH hUX hSz (fun x hx => by have := hz.lt x hx; omega) hbp (by omega)) ?_
          rintro _ _ ⟨rfl, rfl⟩
          repeat' (first | refine zP ?_ | refine zA ?_ | (refine zM ?_; intro _ _) | refine zX ?_ | (refine zC ?_; intro _ _ _ _) | (refine zS ?_; intro _ _) | (apply Ws <;> intro hg))
          refine WR.call (by first | exact gN | exact gS rfl) rfl rfl (rCost_fs hH hUX hSu (fun x hx => by have := hy.lt x hx; omega) hbp (by omega)) ?_
          rintro _ _ ⟨rfl, rfl⟩
          by_cases hcl : sumZ (fun x => ps.getD x 0) z < sumZ (fun x => ps.getD x 0) y
          · rw [if_pos (.inr hcl)] at hst
            repeat' (first | refine zP ?_ | refine zA ?_ | (refine zM ?_; intro _ _) | refine zX ?_ | (refine zC ?_; intro _ _ _ _) | (refine zS ?_; intro _ _) | refine zO ?_ | (apply Ws <;> intro hg))
            exact Ends.loop ⟨k + 1, _, 0⟩ (by simp only; omega) (by repeat' (first | exact .nil | refine .cons rfl ?_)) rfl ⟨by simp only; omega, hk', by simp only; rw [hst]; exact hSz, hH⟩
          · rw [if_neg (by rintro (h | h); exact htn h; exact hcl h)] at hst
            repeat' (first | refine zP ?_ | refine zA ?_ | (refine zM ?_; intro _ _) | refine zX ?_ | (refine zC ?_; intro _ _ _ _) | (refine zS ?_; intro _ _) | refine zO ?_ | (apply Ws <;> intro hg))
            exact Ends.loop ⟨k + 1, u9, 0⟩ (by simp only; omega) (by repeat' (first | exact .nil | refine .cons rfl ?_)) rfl ⟨by simp only; omega, hk', by simp only; rw [hst]; exact hSu, hH⟩
        · have hkl : k = G.length := by omega
          subst hkl
          rw [List.take_length] at hSu
          repeat' (first | refine zP ?_ | refine zA ?_ | (refine zM ?_; intro _ _) | refine zX ?_ | (refine zC ?_; intro _ _ _ _) | (refine zS ?_; intro _ _) | (apply Ws <;> intro hg))
          exact Ends.ret2 rfl rfl ⟨_, MO ++ Mi, n3, rfl, by rw [← hMX]; exact hSu, by omega, by rw [← hMX]; exact hH⟩
set_option maxHeartbeats 2000000 in
theorem PostFewest_fs (hH : hasH M n0 H) {xs ps : List Int} (hS : Sl M 1 v (ints xs)) (hU : Sl M 1 w (ints ps)) :
    FS C 4 [v, w] H (fun e H' => e = .bool true) := by
  have hv := hS.one_
  have hw := hU.one_
  have hfin : ∀ {H' : Heap}, FS C 8 [] H' (fun e H'' => e = .bool true ∧ H'' = H') := fun {H'} => FS.works ⟨rfl, rfl⟩
  refine FS.intro (pf := pf4) rfl rfl rfl ?_
  by_cases hbig : 40 < xs.length
  · repeat' (first | refine zP ?_ | refine zA ?_ | (refine zM ?_; intro _ _) | refine zX ?_ | (refine zC ?_; intro _ _ _ _) | (refine zS ?_; intro _ _) | refine zO ?_ | (apply Ws <;> intro hg))
    refine WR.call (by first | exact gN | exact gS rfl) rfl rfl hfin ?_
    rintro _ _ ⟨rfl, rfl⟩
    repeat' (first | refine zP ?_ | refine zA ?_ | (refine zM ?_; intro _ _) | refine zX ?_ | (refine zC ?_; intro _ _ _ _) | (refine zS ?_; intro _ _) | (apply Ws <;> intro hg))
    exact Ends.ret1 rfl rfl
  by_cases hbig2 : 40 < ps.length
  · repeat' (first | refine zP ?_ | refine zA ?_ | (refine zM ?_; intro _ _) | refine zX ?_ | (refine zC ?_; intro _ _ _ _) | (refine zS ?_; intro _ _) | refine zO ?_ | (apply Ws <;> intro hg))
    refine WR.call (by first | exact gN | exact gS rfl) rfl rfl hfin ?_
    rintro _ _ ⟨rfl, rfl⟩
    repeat' (first | refine zP ?_ | refine zA ?_ | (refine zM ?_; intro _ _) | refine zX ?_ | (refine zC ?_; intro _ _ _ _) | (refine zS ?_; intro _ _) | (apply Ws <;> intro hg))
    exact Ends.ret1 rfl rfl
  have hA : (if errS xs = 0 then (fewB xs).getD 0 [] else []).length ≤ 1000 := by
    split
    · rename_i h0
      exact (fewB_len10 grdL_asc (errS_zero.1 h0).most _ (getD_mem (List.length_pos_iff.2 (fewB_ne xs)))).2
    · simp
  have hB : (if errS xs = 0 then (aptB xs).getD 0 [] else []).length ≤ 1000 := by
    split
    · rename_i h0
      exact (fewB_len10 aptL_asc (errS_zero.1 h0).most _ (getD_mem (List.length_pos_iff.2 (aptB_ne xs)))).2
    · simp
  have hC : (if errR xs ps = 0 then (prcB xs ps).getD 0 [] else []).length ≤ 1000 := by
    split
    · rename_i h0
      exact (fewB_len10 grdL_asc (errR_zero.1 h0).1.most _ (getD_mem (List.length_pos_iff.2 (prcB_ne xs ps)))).2
    · simp
  repeat' (first | refine zP ?_ | refine zA ?_ | (refine zM ?_; intro _ _) | refine zX ?_ | (refine zC ?_; intro _ _ _ _) | (refine zS ?_; intro _ _) | refine zO ?_ | (apply Ws <;> intro hg))
  refine WR.call (by first | exact gN | exact gS rfl) rfl rfl (Fewest_fs hH hS (by omega)) ?_
  rintro _ H1 ⟨a1, M1, n1, rfl, hA1, hn1, hH1⟩
  have hS1 := hS.mono fun q hq => List.mem_append_right M1 hq
  have hU1 := hU.mono fun q hq => List.mem_append_right M1 hq
  generalize M1 ++ M = X1 at hH1 hS1 hU1 hA1
  repeat' (first | refine zP ?_ | refine zA ?_ | (refine zM ?_; intro _ _) | refine zX ?_ | (refine zC ?_; intro _ _ _ _) | (refine zS ?_; intro _ _) | (apply Ws <;> intro hg))
  refine WR.call (by first | exact gN | exact gS rfl) rfl rfl (rFewest_fs hH1 hS1 (by omega)) ?_
  rintro _ H2 ⟨a2, M2, n2, rfl, hA2, hn2, hH2⟩
  have hS2 := hS1.mono fun q hq => List.mem_append_right M2 hq
  have hU2 := hU1.mono fun q hq => List.mem_append_right M2 hq
  replace hA1 := hA1.mono fun q hq => List.mem_append_right M2 hq
  generalize M2 ++ X1 = X2 at hH2 hS2 hU2 hA1 hA2
  repeat' (first | refine zP ?_ | refine zA ?_ | (refine zM ?_; intro _ _) | refine zX ?_ | (refine zC ?_; intro _ _ _ _) | (refine zS ?_; intro _ _) | (apply Ws <;> intro hg))
  refine WR.call (by first | exact gN | exact gS rfl) rfl rfl (Apart_fs hH2 hS2 (by omega)) ?_
  rintro _ H3 ⟨b1, M3, n3, rfl, hB1, hn3, hH3⟩
  have hS3 := hS2.mono fun q hq => List.mem_append_right M3 hq
  have hU3 := hU2.mono fun q hq => List.mem_append_right M3 hq
  replace hA1 := hA1.mono fun q hq => List.mem_append_right M3 hq
  replace hA2 := hA2.mono fun q hq => List.mem_append_right M3 hq
  generalize M3 ++ X2 = X3 at hH3 hS3 hU3 hA1 hA2 hB1
  repeat' (first | refine zP ?_ | refine zA ?_ | (refine zM ?_; intro _ _) | refine zX ?_ | (refine zC ?_; intro _ _ _ _) | (refine zS ?_; intro _ _) | (apply Ws <;> intro hg))
  refine WR.call (by first | exact gN | exact gS rfl) rfl rfl (rApart_fs hH3 hS3 (by omega)) ?_
  rintro _ H4 ⟨b2, M4, n4, rfl, hB2, hn4, hH4⟩
  have hS4 := hS3.mono fun q hq => List.mem_append_right M4 hq
  have hU4 := hU3.mono fun q hq => List.mem_append_right M4 hq
  replace hA1 := hA1.mono fun q hq => List.mem_append_right M4 hq
  replace hA2 := hA2.mono fun q hq => List.mem_append_right M4 hq
  replace hB1 := hB1.mono fun q hq => List.mem_append_right M4 hq
  generalize M4 ++ X3 = X4 at hH4 hS4 hU4 hA1 hA2 hB1 hB2
  repeat' (first | refine zP ?_ | refine zA ?_ | (refine zM ?_; intro _ _) | refine zX ?_ | (refine zC ?_; intro _ _ _ _) | (refine zS ?_; intro _ _) | (apply Ws <;> intro hg))
  refine WR.call (by first | exact gN | exact gS rfl) rfl rfl (Cheapest_fs hH4 hS4 (by omega) hU4 (by omega)) ?_
  rintro _ H5 ⟨c1, M5, n5, rfl, hC1, hn5, hH5⟩
  have hS5 := hS4.mono fun q hq => List.mem_append_right M5 hq
  have hU5 := hU4.mono fun q hq => List.mem_append_right M5 hq
  replace hA1 := hA1.mono fun q hq => List.mem_append_right M5 hq
  replace hA2 := hA2.mono fun q hq => List.mem_append_right M5 hq
  replace hB1 := hB1.mono fun q hq => List.mem_append_right M5 hq
  replace hB2 := hB2.mono fun q hq => List.mem_append_right M5 hq
  generalize M5 ++ X4 = X5 at hH5 hS5 hU5 hA1 hA2 hB1 hB2 hC1
  repeat' (first | refine zP ?_ | refine zA ?_ | (refine zM ?_; intro _ _) | refine zX ?_ | (refine zC ?_; intro _ _ _ _) | (refine zS ?_; intro _ _) | (apply Ws <;> intro hg))
  refine WR.call (by first | exact gN | exact gS rfl) rfl rfl (rCheapest_fs hH5 hS5 (by omega) hU5 (by omega)) ?_
  rintro _ H6 ⟨c2, M6, n6, rfl, hC2, hn6, hH6⟩
  replace hA1 := hA1.mono fun q hq => List.mem_append_right M6 hq
  replace hA2 := hA2.mono fun q hq => List.mem_append_right M6 hq
  replace hB1 := hB1.mono fun q hq => List.mem_append_right M6 hq
  replace hB2 := hB2.mono fun q hq => List.mem_append_right M6 hq
  replace hC1 := hC1.mono fun q hq => List.mem_append_right M6 hq
  generalize M6 ++ X5 = X6 at hH6 hA1 hA2 hB1 hB2 hC1 hC2
  clear hH hH1 hH2 hH3 hH4 hH5 hS hS1 hS2 hS3 hS4 hS5 hU hU1 hU2 hU3 hU4 hU5
  generalize (if errS xs = 0 then (fewB xs).getD 0 [] else []) = A at hA1 hA2 hA
  generalize (if errS xs = 0 then (aptB xs).getD 0 [] else []) = B at hB1 hB2 hB
  generalize (if errR xs ps = 0 then (prcB xs ps).getD 0 [] else []) = Q at hC1 hC2 hC
  repeat' (first | refine zP ?_ | refine zA ?_ | (refine zM ?_; intro _ _) | refine zX ?_ | (refine zC ?_; intro _ _ _ _) | (refine zS ?_; intro _ _) | refine zO ?_ | (apply Ws <;> intro hg))
  refine WR.call (by first | exact gN | exact gS rfl) rfl rfl (same_fs hH6 hA1 hA2 (by omega) (by omega)) ?_
  rintro _ H9 ⟨rfl, rfl⟩
  rw [decide_eq_true rfl]
  repeat' (first | refine zP ?_ | refine zA ?_ | (refine zM ?_; intro _ _) | refine zX ?_ | (refine zC ?_; intro _ _ _ _) | (refine zS ?_; intro _ _) | refine zO ?_ | (apply Ws <;> intro hg))
  refine WR.call (by first | exact gN | exact gS rfl) rfl rfl (same_fs hH6 hB1 hB2 (by omega) (by omega)) ?_
  rintro _ H9 ⟨rfl, rfl⟩
  rw [decide_eq_true rfl]
  repeat' (first | refine zP ?_ | refine zA ?_ | (refine zM ?_; intro _ _) | refine zX ?_ | (refine zC ?_; intro _ _ _ _) | (refine zS ?_; intro _ _) | refine zO ?_ | (apply Ws <;> intro hg))
  refine WR.call (by first | exact gN | exact gS rfl) rfl rfl (same_fs hH6 hC1 hC2 (by omega) (by omega)) ?_
  rintro _ H9 ⟨rfl, rfl⟩
  rw [decide_eq_true rfl]
  repeat' (first | refine zP ?_ | refine zA ?_ | (refine zM ?_; intro _ _) | refine zX ?_ | (refine zC ?_; intro _ _ _ _) | (refine zS ?_; intro _ _) | refine zO ?_ | (apply Ws <;> intro hg))
  refine WR.call (by first | exact gN | exact gS rfl) rfl rfl hfin ?_
  rintro _ _ ⟨rfl, rfl⟩
  repeat' (first | refine zP ?_ | refine zA ?_ | (refine zM ?_; intro _ _) | refine zX ?_ | (refine zC ?_; intro _ _ _ _) | (refine zS ?_; intro _ _) | refine zO ?_ | (apply Ws <;> intro hg))
  exact Ends.ret1 rfl rfl
end
end Go.Proofs.Ytcfffhkabhmkmaa.Ps
