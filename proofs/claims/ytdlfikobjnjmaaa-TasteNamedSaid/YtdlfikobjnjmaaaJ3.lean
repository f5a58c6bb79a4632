/- Texts of the law, joined. -/
import Derived.Test.YtdlfikobjnjmaaaSymX
import Derived.Test.YtdlfikobjnjmaaaJ2
import Derived.Test.YtdlfikobjnjmaaaTtP
/- Appending to a slice that is read again afterwards. -/
namespace Go.Abs
set_option linter.unusedSectionVars false
variable [Globs]
open Go
set_option linter.unusedVariables false
section
variable {C : CW} {nt : Nat} {L : Env} {D : List Nat} {H : Heap} {K : St → Prop} {M M' : HL} {n i d : Nat} {gd : Option (Tmp × Bool)} {lo : List Nat} {l : List POp} {rs : List Rd}
theorem WD.bldS {e sz k : Nat} {z : List Value} {ps : List (Nat × Operand)} {vs : List (Nat × Value)} {cs : List Value} (hg : gOK L gd) (hd : Nat.blt d nt = true) (hH : hasH M n H) (hp : evp L ps = some vs)
    (hc : Instr.fill (fun j => some (j * sz, sz)) z.toArray vs = some cs.toArray) (hz : cs.all one = true)
    (hs : ∀ H', hasH ((n, .row e 0 0 cs) :: M) (n + 1) H' → stands H' lo rs = true)
    (kk : ∀ H', hasH ((n, .row e 0 0 cs) :: M) (n + 1) H' → WD C nt l rs ((d, .slice (some ⟨n, 0, some 0⟩) k (2 * k + 1)) :: L) D H' K) : WD C nt (⟨i, some d, .bldS e sz z k ps, gd, lo⟩ :: l) rs L D H K := by
  have h2 := hH.row e hz
  refine WD.op hg hd (H' := H.row e cs) (v := .slice (some ⟨n, 0, some 0⟩) k (2 * k + 1)) (fun t ht => ?_) rfl (hs _ h2) (kk _ h2)
  simp only [opA, evp_ok ht hp, hc, oBldS, newAddr, hH.next]
end
section
variable {C : CW} {nt : Nat} {L : Env} {D : List Nat} {H : Heap} {K : St → Prop} {M M' : HL} {n i d : Nat} {gd : Option (Tmp × Bool)} {lo : List Nat} {l : List POp} {rs : List Rd}
end
attribute [local irreducible] gOK WS WC WR WD Ends FS YS OpV seqK blockK loopK midK retK rdK asgK rangeEnd sat Cell
end Go.Abs

/- Operations under a guard in regions that draw; sums of numbers that are not negative. -/
namespace Go.Abs
set_option linter.unusedSectionVars false
variable [Globs]
open Go
set_option linter.unusedVariables false
section
variable {C : CW} {nt : Nat} {L : Env} {D : List Nat} {H : Heap} {K : St → Prop} {M M' : HL} {n i d : Nat} {gd : Option (Tmp × Bool)} {lo : List Nat} {l : List POp} {rs : List Rd}
theorem WD.guardF {g : Nat} {q : Bool} {op : AOp} (hg : Env.get L g = some (.bool (!q))) (hd : Nat.blt d nt = true) (hs : stands H lo rs = true) (k : WD C nt l rs ((d, undef) :: L) D H K) :
    WD C nt (⟨i, some d, op, some (g, q), lo⟩ :: l) rs L D H K := by
  intro t ht
  obtain ⟨m, s', h1, h2⟩ := k _ (ht.put d undef)
  have hw : wantedA t ⟨i, some d, op, some (g, q), lo⟩ = false := by cases q <;> simp [wantedA, ht g _ hg]
  exact ⟨m, s', by simp only [stepOpsD, doOp, noteRd, hw, cond_false, putT, hd, cond_true, stOf, hs]; exact h1, h2⟩
theorem WD.guardU {g : Nat} {q : Bool} {op : AOp} (hg : Env.get L g = some undef) (hd : Nat.blt d nt = true) (hs : stands H lo rs = true) (k : WD C nt l rs ((d, undef) :: L) D H K) :
    WD C nt (⟨i, some d, op, some (g, q), lo⟩ :: l) rs L D H K := by
  intro t ht
  obtain ⟨m, s', h1, h2⟩ := k _ (ht.put d undef)
  have hw : wantedA t ⟨i, some d, op, some (g, q), lo⟩ = false := by simp only [wantedA, ht g _ hg]; rfl
  exact ⟨m, s', by simp only [stepOpsD, doOp, noteRd, hw, cond_false, putT, hd, cond_true, stOf, hs]; exact h1, h2⟩
end
end Go.Abs

/- Functions of the library. -/
namespace Go.Abs
set_option linter.unusedSectionVars false
variable [Globs]
open Go Go.Mth
section
variable {C : CW} {nt : Nat} {L : Env} {D : List Nat} {H : Heap} {K : St → Prop} {M M' : HL} {n i d : Nat} {gd : Option (Tmp × Bool)} {lo' : List Nat} {l : List POp}
theorem WR.cutHiN {x hi : Operand} {v : Value} {xs : List Nat} {m : Nat} {kd : IntKind} (hg : gOK L gd) (hd : Nat.blt d nt = true) (hx : ev L x = some v) (hS : Sl M 1 v (nodes xs)) (hh : ev L hi = some (.int kd (m : Int))) (hm : m ≤ xs.length)
    (k : ∀ v', Sl M 1 v' (nodes (xs.take m)) → WR C nt l ((d, v') :: L) D H K) : WR C nt (⟨i, some d, .slS x 1 none (some hi) none, gd, lo'⟩ :: l) L D H K := by
  refine WR.slS (vl := none) (vh := some (.int kd (m : Int))) (a := 0) (b := m) hg hd hx hS rfl (by simp [bnd, hh]) rfl (fun _ _ => rfl) (Nat.zero_le _) (by simpa using hm) (Nat.le_refl _) fun v' h => k v' ?_
  simpa [List.map_take] using h
theorem WR.cutLoV {x lo : Operand} {v : Value} {xs : List Value} {a : Nat} {ka : IntKind} (hg : gOK L gd) (hd : Nat.blt d nt = true) (hx : ev L x = some v) (hS : Sl M 1 v xs) (h1 : ev L lo = some (.int ka (a : Int))) (hab : a ≤ xs.length)
    (k : ∀ v', Sl M 1 v' (xs.drop a) → WR C nt l ((d, v') :: L) D H K) : WR C nt (⟨i, some d, .slS x 1 (some lo) none none, gd, lo'⟩ :: l) L D H K := by
  refine WR.slS (vl := some (.int ka (a : Int))) (vh := none) (a := a) (b := xs.length) hg hd hx hS (by simp [bnd, h1]) rfl rfl (fun len h => by simp [hiOf]; simpa using h) hab (by simp) (Nat.le_refl _) fun v' h => k v' ?_
  have e : (xs.drop (a * 1)).take ((xs.length - a) * 1) = xs.drop a := by
    rw [Nat.mul_one, Nat.mul_one, List.take_of_length_le (by simp)]
  rwa [e] at h
theorem WR.cutLoN {x lo : Operand} {v : Value} {xs : List Nat} {a : Nat} {ka : IntKind} (hg : gOK L gd) (hd : Nat.blt d nt = true) (hx : ev L x = some v) (hS : Sl M 1 v (nodes xs)) (h1 : ev L lo = some (.int ka (a : Int))) (hab : a ≤ xs.length)
    (k : ∀ v', Sl M 1 v' (nodes (xs.drop a)) → WR C nt l ((d, v') :: L) D H K) : WR C nt (⟨i, some d, .slS x 1 (some lo) none none, gd, lo'⟩ :: l) L D H K :=
  WR.cutLoV hg hd hx hS h1 (by simpa using hab) fun v' h => k v' (by simpa [nodes, List.map_drop] using h)
end
end Go.Abs
namespace Go.Proofs.Ytdlfikobjnjmaaa.Tt
open Go Go.Abs Go.Mth
set_option linter.unusedVariables false
set_option linter.unusedSimpArgs false
theorem nodes_IL (l : List Nat) : nodes l = ints (IL l) := by simp [nodes, ints, IL]
attribute [local irreducible] gOK WS WC WR WD Ends FS YS OpV seqK blockK loopK midK retK rdK asgK rangeEnd sat Cell
section
variable {M : HL} {n0 : Nat} {H : Heap} {v w : Value}
theorem Index_fs (hH : hasH M n0 H) {xs : List Nat} (hS : Sl M 1 v (nodes xs)) (hx : xs.length ≤ 100000) (a : Nat) :
    FS C 52 [v, .int .i64 (a : Int)] H (fun e H' => H' = H ∧ ((∃ k, k < xs.length ∧ xs.getD k 0 = a ∧ (∀ j, j < k → xs.getD j 0 ≠ a) ∧ e = .int .i64 (k : Int)) ∨ (a ∉ xs ∧ e = .int .i64 (-1)))) := by
  refine FS.intro (pf := pf52) rfl rfl rfl ?_
  repeat' (first | refine zP ?_ | refine zA ?_ | (refine zM ?_; intro _ _) | refine zX ?_ | (refine zC ?_; intro _ _ _ _) | (refine zS ?_; intro _ _) | (apply Ws <;> intro hg))
  refine WC.loopX [(0, _), (1, _), (6, _), (7, _)] (fun k : Nat => [(8, .int .i64 (k : Int))]) [] (fun k H' => H' = H ∧ k ≤ xs.length ∧ ∀ j, j < k → xs.getD j 0 ≠ a) (fun k => xs.length - k) 0 (by repeat' (first | exact .nil | refine .cons rfl ?_)) rfl ⟨rfl, Nat.zero_le _, fun j h => absurd h (Nat.not_lt_zero _)⟩ ?_
  rintro k H' ⟨rfl, hk, hno⟩
  dsimp only [List.cons_append, List.nil_append]
  repeat' (first | refine zP ?_ | refine zA ?_ | (refine zM ?_; intro _ _) | refine zX ?_ | (refine zC ?_; intro _ _ _ _) | (refine zS ?_; intro _ _) | (apply Ws <;> intro hg))
  refine WC.condP rfl (fun hlt => ?_) (fun hlt => ?_)
  · have hk' : k < xs.length := by omega
    repeat' (first | refine zP ?_ | refine zA ?_ | (refine zM ?_; intro _ _) | refine zX ?_ | (refine zC ?_; intro _ _ _ _) | (refine zS ?_; intro _ _) | (apply Ws <;> intro hg))
    refine WC.condP rfl (fun h => ?_) (fun h => ?_)
    · repeat' (first | refine zP ?_ | refine zA ?_ | (refine zM ?_; intro _ _) | refine zX ?_ | (refine zC ?_; intro _ _ _ _) | (refine zS ?_; intro _ _) | (apply Ws <;> intro hg))
      exact Ends.ret1 rfl ⟨rfl, .inl ⟨k, hk', by omega, hno, rfl⟩⟩
    · repeat' (first | refine zP ?_ | refine zA ?_ | (refine zM ?_; intro _ _) | refine zX ?_ | (refine zC ?_; intro _ _ _ _) | (refine zS ?_; intro _ _) | (apply Ws <;> intro hg))
      refine Ends.loop (k + 1) (by omega) (by repeat' (first | exact .nil | refine .cons rfl ?_)) rfl ⟨rfl, hk', fun j hj => ?_⟩
      rcases Nat.lt_or_ge j k with h2 | h2
      · exact hno j h2
      · have : j = k := by omega
        subst this
        omega
  · repeat' (first | refine zP ?_ | refine zA ?_ | (refine zM ?_; intro _ _) | refine zX ?_ | (refine zC ?_; intro _ _ _ _) | (refine zS ?_; intro _ _) | (apply Ws <;> intro hg))
    refine Ends.ret1 rfl ⟨rfl, .inr ⟨fun hm => ?_, rfl⟩⟩
    obtain ⟨j, hj, he⟩ := List.mem_iff_getElem.1 hm
    exact hno j (by omega) (by rw [getD_eq hj]; exact he)
theorem Contains_fs (hH : hasH M n0 H) {xs : List Nat} (hS : Sl M 1 v (nodes xs)) (hx : xs.length ≤ 100000) (a : Nat) :
    FS C 47 [v, .int .i64 (a : Int)] H (fun e H' => H' = H ∧ e = .bool (decide (a ∈ xs))) := by
  refine FS.intro (pf := pf47) rfl rfl rfl ?_
  repeat' (first | refine zP ?_ | refine zA ?_ | (refine zM ?_; intro _ _) | refine zX ?_ | (refine zC ?_; intro _ _ _ _) | (refine zS ?_; intro _ _) | (apply Ws <;> intro hg))
  refine WR.call (by first | exact gN | exact gS rfl) rfl rfl (Index_fs hH hS hx a) ?_
  rintro _ _ ⟨rfl, ⟨k, hk, he, _, rfl⟩ | ⟨hn, rfl⟩⟩
  · repeat' (first | refine zP ?_ | refine zA ?_ | (refine zM ?_; intro _ _) | refine zX ?_ | (refine zC ?_; intro _ _ _ _) | (refine zS ?_; intro _ _) | (apply Ws <;> intro hg))
    refine Ends.ret1 rfl ⟨rfl, ?_⟩
    have hm : a ∈ xs := by rw [← he]; exact getD_mem hk
    rw [decide_eq_true hm, decide_eq_true (by omega)]
  · repeat' (first | refine zP ?_ | refine zA ?_ | (refine zM ?_; intro _ _) | refine zX ?_ | (refine zC ?_; intro _ _ _ _) | (refine zS ?_; intro _ _) | (apply Ws <;> intro hg))
    refine Ends.ret1 rfl ⟨rfl, ?_⟩
    rw [decide_eq_false hn, decide_eq_false (by omega)]
theorem isNaN_fs (a : Int) (H : Heap) : FS C 54 [.int .i64 a] H (fun e H' => e = .bool false ∧ H' = H) := by
  refine FS.intro (pf := pf54) rfl rfl rfl ?_
  repeat' (first | refine zP ?_ | refine zA ?_ | (refine zM ?_; intro _ _) | refine zX ?_ | (refine zC ?_; intro _ _ _ _) | (refine zS ?_; intro _ _) | (apply Ws <;> intro hg))
  exact Ends.ret1 rfl ⟨by rw [decide_eq_false (by simp)], rfl⟩
theorem cmpI_fs (a b : Int) (H : Heap) : FS C 53 [.int .i64 a, .int .i64 b] H (fun e H' => e = .int .i64 (cmpI a b) ∧ H' = H) := by
  refine FS.intro (pf := pf53) rfl rfl rfl ?_
  repeat' (first | refine zP ?_ | refine zA ?_ | (refine zM ?_; intro _ _) | refine zX ?_ | (refine zC ?_; intro _ _ _ _) | (refine zS ?_; intro _ _) | (apply Ws <;> intro hg))
  refine WR.call (by first | exact gN | exact gS rfl) rfl rfl (isNaN_fs _ _) ?_
  rintro _ _ ⟨rfl, rfl⟩
  repeat' (first | refine zP ?_ | refine zA ?_ | (refine zM ?_; intro _ _) | refine zX ?_ | (refine zC ?_; intro _ _ _ _) | (refine zS ?_; intro _ _) | (apply Ws <;> intro hg))
  refine WR.call (by first | exact gN | exact gS rfl) rfl rfl (isNaN_fs _ _) ?_
  rintro _ _ ⟨rfl, rfl⟩
  repeat' (first | refine zP ?_ | refine zA ?_ | (refine zM ?_; intro _ _) | refine zX ?_ | (refine zC ?_; intro _ _ _ _) | (refine zS ?_; intro _ _) | (apply Ws <;> intro hg))
  refine WC.condP rfl (fun h1 => ?_) (fun h1 => ?_)
  · repeat' (first | refine zP ?_ | refine zA ?_ | (refine zM ?_; intro _ _) | refine zX ?_ | (refine zC ?_; intro _ _ _ _) | (refine zS ?_; intro _ _) | (apply Ws <;> intro hg))
    exact Ends.ret1 rfl ⟨by rw [cmpI, if_pos h1], rfl⟩
  · repeat' (first | refine zP ?_ | refine zA ?_ | (refine zM ?_; intro _ _) | refine zX ?_ | (refine zC ?_; intro _ _ _ _) | (refine zS ?_; intro _ _) | (apply Ws <;> intro hg))
    refine WC.condP rfl (fun h2 => ?_) (fun h2 => ?_)
    · repeat' (first | refine zP ?_ | refine zA ?_ | (refine zM ?_; intro _ _) | refine zX ?_ | (refine zC ?_; intro _ _ _ _) | (refine zS ?_; intro _ _) | (apply Ws <;> intro hg))
      exact Ends.ret1 rfl ⟨by rw [cmpI, if_neg h1, if_pos h2], rfl⟩
    · repeat' (first | refine zP ?_ | refine zA ?_ | (refine zM ?_; intro _ _) | refine zX ?_ | (refine zC ?_; intro _ _ _ _) | (refine zS ?_; intro _ _) | (apply Ws <;> intro hg))
      exact Ends.ret1 rfl ⟨by rw [cmpI, if_neg h1, if_neg h2], rfl⟩
theorem Compare_fs (hH : hasH M n0 H) {xs ys : List Int} (hS : Sl M 1 v (ints xs)) (hU : Sl M 1 w (ints ys)) (hx : xs.length ≤ 1000) (hy : ys.length ≤ 1000) :
    FS C 50 [v, w] H (fun e H' => e = .int .i64 (lexC xs ys) ∧ H' = H) := by
  refine FS.intro (pf := pf50) rfl rfl rfl ?_
  repeat' (first | refine zP ?_ | refine zA ?_ | (refine zM ?_; intro _ _) | refine zX ?_ | (refine zC ?_; intro _ _ _ _) | (refine zS ?_; intro _ _) | (apply Ws <;> intro hg))
  refine WC.loopX [(0, _), (1, _), (9, _), (10, _)] (fun k : Nat => [(11, .int .i64 (k : Int))]) [] (fun k H' => H' = H ∧ k ≤ xs.length ∧ k ≤ ys.length ∧ lexC xs ys = lexC (xs.drop k) (ys.drop k)) (fun k => xs.length - k) 0 (by repeat' (first | exact .nil | refine .cons rfl ?_)) rfl ⟨rfl, Nat.zero_le _, Nat.zero_le _, rfl⟩ ?_
  rintro k _ ⟨rfl, hk, hk2, hL⟩
  dsimp only [List.cons_append, List.nil_append]
  repeat' (first | refine zP ?_ | refine zA ?_ | (refine zM ?_; intro _ _) | refine zX ?_ | (refine zC ?_; intro _ _ _ _) | (refine zS ?_; intro _ _) | (apply Ws <;> intro hg))
  refine WC.condP rfl (fun hlt => ?_) (fun hlt => ?_)
  · have hk' : k < xs.length := by omega
    rw [List.drop_eq_getElem_cons hk'] at hL
    repeat' (first | refine zP ?_ | refine zA ?_ | (refine zM ?_; intro _ _) | refine zX ?_ | (refine zC ?_; intro _ _ _ _) | (refine zS ?_; intro _ _) | (apply Ws <;> intro hg))
    refine WC.condP rfl (fun hge => ?_) (fun hge => ?_)
    · have hke : k = ys.length := by omega
      repeat' (first | refine zP ?_ | refine zA ?_ | (refine zM ?_; intro _ _) | refine zX ?_ | (refine zC ?_; intro _ _ _ _) | (refine zS ?_; intro _ _) | (apply Ws <;> intro hg))
      refine Ends.ret1 rfl ⟨?_, rfl⟩
      rw [hL, show ys.drop k = [] from List.drop_eq_nil_of_le (by omega)]; rfl
    · have hk3 : k < ys.length := by omega
      rw [List.drop_eq_getElem_cons hk3, lexC, ← getD_eq (a := 0) hk', ← getD_eq (a := 0) hk3] at hL
      repeat' (first | refine zP ?_ | refine zA ?_ | (refine zM ?_; intro _ _) | refine zX ?_ | (refine zC ?_; intro _ _ _ _) | (refine zS ?_; intro _ _) | (apply Ws <;> intro hg))
      refine WR.call (by first | exact gN | exact gS rfl) rfl rfl (cmpI_fs _ _ _) ?_
      rintro _ _ ⟨rfl, rfl⟩
      repeat' (first | refine zP ?_ | refine zA ?_ | (refine zM ?_; intro _ _) | refine zX ?_ | (refine zC ?_; intro _ _ _ _) | (refine zS ?_; intro _ _) | (apply Ws <;> intro hg))
      refine WC.condP rfl (fun hne => ?_) (fun hne => ?_)
      · repeat' (first | refine zP ?_ | refine zA ?_ | (refine zM ?_; intro _ _) | refine zX ?_ | (refine zC ?_; intro _ _ _ _) | (refine zS ?_; intro _ _) | (apply Ws <;> intro hg))
        exact Ends.ret1 rfl ⟨by rw [hL, if_pos hne], rfl⟩
      · repeat' (first | refine zP ?_ | refine zA ?_ | (refine zM ?_; intro _ _) | refine zX ?_ | (refine zC ?_; intro _ _ _ _) | (refine zS ?_; intro _ _) | (apply Ws <;> intro hg))
        exact Ends.loop (k + 1) (by omega) (by repeat' (first | exact .nil | refine .cons rfl ?_)) rfl ⟨rfl, by omega, by omega, by rw [hL, if_neg hne]⟩
  · have hkl : k = xs.length := by omega
    rw [show xs.drop k = [] from List.drop_eq_nil_of_le (by omega)] at hL
    repeat' (first | refine zP ?_ | refine zA ?_ | (refine zM ?_; intro _ _) | refine zX ?_ | (refine zC ?_; intro _ _ _ _) | (refine zS ?_; intro _ _) | (apply Ws <;> intro hg))
    refine WC.condP rfl (fun h3 => ?_) (fun h3 => ?_)
    · rw [List.drop_eq_getElem_cons (show k < ys.length by omega)] at hL
      repeat' (first | refine zP ?_ | refine zA ?_ | (refine zM ?_; intro _ _) | refine zX ?_ | (refine zC ?_; intro _ _ _ _) | (refine zS ?_; intro _ _) | (apply Ws <;> intro hg))
      exact Ends.ret1 rfl ⟨by rw [hL]; rfl, rfl⟩
    · rw [show ys.drop k = [] from List.drop_eq_nil_of_le (by omega)] at hL
      repeat' (first | refine zP ?_ | refine zA ?_ | (refine zM ?_; intro _ _) | refine zX ?_ | (refine zC ?_; intro _ _ _ _) | (refine zS ?_; intro _ _) | (apply Ws <;> intro hg))
      exact Ends.ret1 rfl ⟨by rw [hL]; rfl, rfl⟩

theorem CompareN_fs (hH : hasH M n0 H) {xs ys : List Nat} (hS : Sl M 1 v (nodes xs)) (hU : Sl M 1 w (nodes ys)) (hx : xs.length ≤ 1000) (hy : ys.length ≤ 1000) :
    FS C 50 [v, w] H (fun e H' => e = .int .i64 (lexC (IL xs) (IL ys)) ∧ H' = H) :=
  Compare_fs hH (by rw [← nodes_IL]; exact hS) (by rw [← nodes_IL]; exact hU) (by rw [IL_len]; exact hx) (by rw [IL_len]; exact hy)
theorem Min_fs (hH : hasH M n0 H) {xs : List Nat} (hS : Sl M 1 v (nodes xs)) (hx : xs.length ≤ 1000) (h0 : 1 ≤ xs.length) :
    FS C 49 [v] H (fun e H' => H' = H ∧ ∃ m : Nat, e = .int .i64 (m : Int) ∧ (m = xs.getD 0 0 ↔ ∀ j, j < xs.length → xs.getD 0 0 ≤ xs.getD j 0)) := by
  refine FS.intro (pf := pf49) rfl rfl rfl ?_
  repeat' (first | refine zP ?_ | refine zA ?_ | (refine zM ?_; intro _ _) | refine zX ?_ | (refine zC ?_; intro _ _ _ _) | (refine zS ?_; intro _ _) | refine zO ?_ | (apply Ws <;> intro hg))
  refine WC.loopX [(0, v)] (fun s : Nat × Nat => [(3, .int .i64 (s.2 : Int)), (4, .int .i64 (s.1 : Int))]) [] (fun s H' => H' = H ∧ 1 ≤ s.1 ∧ s.1 ≤ xs.length ∧ (∃ i, i < s.1 ∧ s.2 = xs.getD i 0) ∧ ∀ j, j < s.1 → s.2 ≤ xs.getD j 0) (fun s => xs.length - s.1) (1, xs.getD 0 0) (by repeat' (first | exact .nil | refine .cons rfl ?_)) rfl
    ⟨rfl, Nat.le_refl _, h0, ⟨0, by simp, rfl⟩, fun j hj => by rw [show j = 0 by simp only at hj; omega]; exact Nat.le_refl _⟩ ?_
  rintro ⟨k, m⟩ H' ⟨rfl, hk1, hk, ⟨i, hi, hm⟩, hall⟩
  simp only at hk1 hk hi hm hall
  dsimp only [List.cons_append, List.nil_append]
  repeat' (first | refine zP ?_ | refine zA ?_ | (refine zM ?_; intro _ _) | refine zX ?_ | (refine zC ?_; intro _ _ _ _) | (refine zS ?_; intro _ _) | (apply Ws <;> intro hg))
  refine WC.condP rfl (fun hlt => ?_) (fun hlt => ?_)
  · have hk' : k < xs.length := by omega
    repeat' (first | refine zP ?_ | refine zA ?_ | (refine zM ?_; intro _ _) | refine zX ?_ | (refine zC ?_; intro _ _ _ _) | (refine zS ?_; intro _ _) | (apply Ws <;> intro hg))
    rw [show Min.min (m : Int) ((xs.getD k 0 : Nat) : Int) = ((Min.min m (xs.getD k 0) : Nat) : Int) by omega]
    refine Ends.loop (k + 1, Min.min m (xs.getD k 0)) (by simp only; omega) (by repeat' (first | exact .nil | refine .cons rfl ?_)) rfl ⟨rfl, by simp only; omega, hk', ?_, fun j hj => ?_⟩
    · rcases Nat.le_total m (xs.getD k 0) with h | h
      · exact ⟨i, by simp only; omega, by simp only; omega⟩
      · exact ⟨k, by simp only; omega, by simp only; omega⟩
    · simp only at hj ⊢
      rcases Nat.lt_or_ge j k with h | h
      · have := hall j h; omega
      · rw [show j = k by omega]; omega
  · have hkn : k = xs.length := by omega
    subst hkn
    repeat' (first | refine zP ?_ | refine zA ?_ | (refine zM ?_; intro _ _) | refine zX ?_ | (refine zC ?_; intro _ _ _ _) | (refine zS ?_; intro _ _) | (apply Ws <;> intro hg))
    refine Ends.ret1 rfl ⟨rfl, m, rfl, fun h j hj => ?_, fun h => ?_⟩
    · rw [← h]; exact hall j hj
    · have q1 := hall 0 (by omega)
      have q2 := h i hi
      omega
end
end Go.Proofs.Ytdlfikobjnjmaaa.Tt

/- Costs, what they show, rings. -/
namespace Go.Proofs.Ytdlfikobjnjmaaa.Tt
open Go Go.Abs Go.Mth
set_option linter.unusedVariables false
set_option linter.unusedSimpArgs false
structure SqP (P : List (List Int)) : Prop where
  len : P.length ≤ 6
  row : ∀ i, i < P.length → (P.getD i []).length = P.length
  bd : ∀ i j, 0 ≤ (P.getD i []).getD j 0 ∧ (P.getD i []).getD j 0 ≤ 243
def DP (P : List (List Int)) (a b : Nat) : Int := (P.getD a []).getD a 0 - (P.getD a []).getD b 0
theorem SqP.dp {P : List (List Int)} (h : SqP P) (a b : Nat) : -243 ≤ DP P a b ∧ DP P a b ≤ 243 := by
  have q1 := h.bd a a
  have q2 := h.bd a b
  unfold DP; omega
def withB (lo hi : Int) (xs : List Int) : Bool := xs.all fun x => decide (lo ≤ x) && decide (x ≤ hi)
attribute [local irreducible] gOK WS WC WR WD Ends FS YS OpV seqK blockK loopK midK retK rdK asgK rangeEnd sat Cell
section
variable {M : HL} {n0 : Nat} {H : Heap} {v w : Value}
theorem within_fs (hH : hasH M n0 H) {xs : List Int} (hS : Sl M 1 v (ints xs)) (hx : xs.length ≤ 100000) (lo hi : Int) :
    FS C 44 [v, .int .i64 lo, .int .i64 hi] H (fun e H' => H' = H ∧ e = .bool (withB lo hi xs)) := by
  refine FS.intro (pf := pf44) rfl rfl rfl ?_
  repeat' (first | refine zP ?_ | refine zA ?_ | (refine zM ?_; intro _ _) | refine zX ?_ | (refine zC ?_; intro _ _ _ _) | (refine zS ?_; intro _ _) | (apply Ws <;> intro hg))
  refine WC.loopX [(1, _), (2, _), (9, _), (10, _)] (fun k : Nat => [(11, .int .i64 (k : Int))]) [] (fun k H' => H' = H ∧ k ≤ xs.length ∧ ∀ j, j < k → lo ≤ xs.getD j 0 ∧ xs.getD j 0 ≤ hi) (fun k => xs.length - k) 0 (by repeat' (first | exact .nil | refine .cons rfl ?_)) rfl ⟨rfl, Nat.zero_le _, fun j h => absurd h (Nat.not_lt_zero _)⟩ ?_
  rintro k H' ⟨rfl, hk, hno⟩
  dsimp only [List.cons_append, List.nil_append]
  repeat' (first | refine zP ?_ | refine zA ?_ | (refine zM ?_; intro _ _) | refine zX ?_ | (refine zC ?_; intro _ _ _ _) | (refine zS ?_; intro _ _) | (apply Ws <;> intro hg))
  refine WC.condP rfl (fun hlt => ?_) (fun hlt => ?_)
  · have hk' : k < xs.length := by omega
    have hbad : ¬ (lo ≤ xs.getD k 0 ∧ xs.getD k 0 ≤ hi) → withB lo hi xs = false := fun hn => by
      cases hb : withB lo hi xs with
      | false => rfl
      | true =>
        have := List.all_eq_true.1 hb _ (getD_mem (a := 0) hk')
        rw [Bool.and_eq_true, decide_eq_true_eq, decide_eq_true_eq] at this
        exact absurd this hn
    repeat' (first | refine zP ?_ | refine zA ?_ | (refine zM ?_; intro _ _) | refine zX ?_ | (refine zC ?_; intro _ _ _ _) | (refine zS ?_; intro _ _) | (apply Ws <;> intro hg))
    · refine Ends.ret1 rfl ⟨rfl, ?_⟩
      rw [hbad (by omega)]
    · refine WC.condP rfl (fun h => ?_) (fun h => ?_)
      · repeat' (first | refine zP ?_ | refine zA ?_ | (refine zM ?_; intro _ _) | refine zX ?_ | (refine zC ?_; intro _ _ _ _) | (refine zS ?_; intro _ _) | (apply Ws <;> intro hg))
        refine Ends.ret1 rfl ⟨rfl, ?_⟩
        rw [hbad (by omega)]
      · repeat' (first | refine zP ?_ | refine zA ?_ | (refine zM ?_; intro _ _) | refine zX ?_ | (refine zC ?_; intro _ _ _ _) | (refine zS ?_; intro _ _) | (apply Ws <;> intro hg))
        refine Ends.loop (k + 1) (by omega) (by repeat' (first | exact .nil | refine .cons rfl ?_)) rfl ⟨rfl, hk', fun j hj => ?_⟩
        by_cases he : j = k
        · subst he; omega
        · exact hno j (by omega)
  · have hkl : k = xs.length := by omega
    subst hkl
    repeat' (first | refine zP ?_ | refine zA ?_ | (refine zM ?_; intro _ _) | refine zX ?_ | (refine zC ?_; intro _ _ _ _) | (refine zS ?_; intro _ _) | (apply Ws <;> intro hg))
    refine Ends.ret1 rfl ⟨rfl, ?_⟩
    have : withB lo hi xs = true := List.all_eq_true.2 fun x hx => by
      obtain ⟨j, hj, he⟩ := List.mem_iff_getElem.1 hx
      have := hno j hj
      rw [getD_eq hj, he] at this
      rw [Bool.and_eq_true, decide_eq_true_eq, decide_eq_true_eq]; exact this
    rw [this]
theorem spares_fs (hH : hasH M n0 H) {P : List (List Int)} (hP : SqP P) (hR : RowsI M v P) {a b : Nat} (ha : a < P.length) (hb : b < P.length) :
    FS C 34 [v, .int .i64 (a : Int), .int .i64 (b : Int)] H (fun e H' => H' = H ∧ e = .int .i64 (DP P a b)) := by
  obtain ⟨ws, hS, hwl, hrow⟩ := hR
  have hra := hrow a ha
  have hla := hP.row a ha
  have hba := hP.bd a a
  have hbb := hP.bd a b
  refine FS.intro (pf := pf34) rfl rfl rfl ?_
  repeat' (first | refine zP ?_ | refine zA ?_ | (refine zM ?_; intro _ _) | refine zX ?_ | (refine zC ?_; intro _ _ _ _) | (refine zS ?_; intro _ _) | (apply Ws <;> intro hg))
  exact Ends.ret1 rfl ⟨rfl, rfl⟩
theorem asGood_fs (hH : hasH M n0 H) {P : List (List Int)} (hP : SqP P) (hR : RowsI M v P) {a b : Nat} (ha : a < P.length) (hb : b < P.length) :
    FS C 18 [v, .int .i64 (a : Int), .int .i64 (b : Int)] H (fun e H' => H' = H ∧ e = .bool (gD (DP P) a b)) := by
  refine FS.intro (pf := pf18) rfl rfl rfl ?_
  repeat' (first | refine zP ?_ | refine zA ?_ | (refine zM ?_; intro _ _) | refine zX ?_ | (refine zC ?_; intro _ _ _ _) | (refine zS ?_; intro _ _) | (apply Ws <;> intro hg))
  refine WR.call (by first | exact gN | exact gS rfl) rfl rfl (spares_fs hH hP hR ha hb) ?_
  rintro _ _ ⟨rfl, rfl⟩
  repeat' (first | refine zP ?_ | refine zA ?_ | (refine zM ?_; intro _ _) | refine zX ?_ | (refine zC ?_; intro _ _ _ _) | (refine zS ?_; intro _ _) | (apply Ws <;> intro hg))
  exact Ends.ret1 rfl ⟨rfl, rfl⟩
theorem better_fs (hH : hasH M n0 H) {P : List (List Int)} (hP : SqP P) (hR : RowsI M v P) {a b : Nat} (ha : a < P.length) (hb : b < P.length) :
    FS C 19 [v, .int .i64 (a : Int), .int .i64 (b : Int)] H (fun e H' => H' = H ∧ e = .bool (decide (0 < DP P a b))) := by
  refine FS.intro (pf := pf19) rfl rfl rfl ?_
  repeat' (first | refine zP ?_ | refine zA ?_ | (refine zM ?_; intro _ _) | refine zX ?_ | (refine zC ?_; intro _ _ _ _) | (refine zS ?_; intro _ _) | (apply Ws <;> intro hg))
  refine WR.call (by first | exact gN | exact gS rfl) rfl rfl (spares_fs hH hP hR ha hb) ?_
  rintro _ _ ⟨rfl, rfl⟩
  repeat' (first | refine zP ?_ | refine zA ?_ | (refine zM ?_; intro _ _) | refine zX ?_ | (refine zC ?_; intro _ _ _ _) | (refine zS ?_; intro _ _) | (apply Ws <;> intro hg))
  exact Ends.ret1 rfl ⟨rfl, rfl⟩
theorem ends_fs (hH : hasH M n0 H) {l : List Nat} (hS : Sl M 1 v (nodes l)) (h0 : 1 ≤ l.length) (hl : l.length ≤ 1000) :
    FS C 37 [v] H (fun e H' => H' = H ∧ e = .tuple #[.int .i64 (l.getD 0 0 : Nat), .int .i64 (l.getD (l.length - 1) 0 : Nat)]) := by
  refine FS.intro (pf := pf37) rfl rfl rfl ?_
  repeat' (first | refine zP ?_ | refine zA ?_ | (refine zM ?_; intro _ _) | refine zX ?_ | (refine zC ?_; intro _ _ _ _) | (refine zS ?_; intro _ _) | (apply Ws <;> intro hg))
  rw [show (l.length : Int) - 1 = ((l.length - 1 : Nat) : Int) by omega]
  repeat' (first | refine zP ?_ | refine zA ?_ | (refine zM ?_; intro _ _) | refine zX ?_ | (refine zC ?_; intro _ _ _ _) | (refine zS ?_; intro _ _) | (apply Ws <;> intro hg))
  exact Ends.ret2 rfl rfl ⟨rfl, rfl⟩
theorem hasBetter_fs (hH : hasH M n0 H) {P : List (List Int)} (hP : SqP P) (hR : RowsI M v P) {l : List Nat} (hS : Sl M 1 w (nodes l)) (h0 : 1 ≤ l.length) (hl : l.length ≤ 1000) (hlt : ∀ x ∈ l, x < P.length) :
    FS C 38 [v, w] H (fun e H' => H' = H ∧ e = .bool (betB (DP P) l)) := by
  refine FS.intro (pf := pf38) rfl rfl rfl ?_
  repeat' (first | refine zP ?_ | refine zA ?_ | (refine zM ?_; intro _ _) | refine zX ?_ | (refine zC ?_; intro _ _ _ _) | (refine zS ?_; intro _ _) | (apply Ws <;> intro hg))
  refine WR.cutLoN (a := 1) (by first | exact gN | exact gS rfl) rfl rfl hS rfl (by omega) fun s hs => ?_
  have hdl : (l.drop 1).length = l.length - 1 := List.length_drop
  repeat' (first | refine zP ?_ | refine zA ?_ | (refine zM ?_; intro _ _) | refine zX ?_ | (refine zC ?_; intro _ _ _ _) | (refine zS ?_; intro _ _) | (apply Ws <;> intro hg))
  refine WC.loopX [(0, _), (1, _), (8, _), (9, _)] (fun k : Nat => [(10, .int .i64 (k : Int))]) [] (fun k H' => H' = H ∧ k + 1 ≤ l.length ∧ ∀ j, j < k → ¬ 0 < DP P (l.getD j 0) (l.getD (j + 1) 0)) (fun k => l.length - k) 0 (by repeat' (first | exact .nil | refine .cons rfl ?_)) rfl ⟨rfl, h0, fun j h => absurd h (Nat.not_lt_zero _)⟩ ?_
  rintro k H' ⟨rfl, hk, hno⟩
  dsimp only [List.cons_append, List.nil_append]
  repeat' (first | refine zP ?_ | refine zA ?_ | (refine zM ?_; intro _ _) | refine zX ?_ | (refine zC ?_; intro _ _ _ _) | (refine zS ?_; intro _ _) | (apply Ws <;> intro hg))
  refine WC.condP rfl (fun hltk => ?_) (fun hltk => ?_)
  · have hk' : k + 1 < l.length := by omega
    have hg1 : (l.drop 1).getD k 0 = l.getD (k + 1) 0 := by rw [getD_drop', Nat.add_comm]
    have hl1 := hlt _ (getD_mem (a := 0) (show k < l.length by omega))
    have hl2 := hlt _ (getD_mem (a := 0) hk')
    repeat' (first | refine zP ?_ | refine zA ?_ | (refine zM ?_; intro _ _) | refine zX ?_ | (refine zC ?_; intro _ _ _ _) | (refine zS ?_; intro _ _) | (apply Ws <;> intro hg))
    rw [hg1]
    refine WR.call (by first | exact gN | exact gS rfl) rfl rfl (better_fs hH hP hR hl1 hl2) ?_
    rintro _ _ ⟨rfl, rfl⟩
    repeat' (first | refine zP ?_ | refine zA ?_ | (refine zM ?_; intro _ _) | refine zX ?_ | (refine zC ?_; intro _ _ _ _) | (refine zS ?_; intro _ _) | (apply Ws <;> intro hg))
    refine WC.condP rfl (fun hb => ?_) (fun hb => ?_)
    · repeat' (first | refine zP ?_ | refine zA ?_ | (refine zM ?_; intro _ _) | refine zX ?_ | (refine zC ?_; intro _ _ _ _) | (refine zS ?_; intro _ _) | (apply Ws <;> intro hg))
      refine Ends.ret1 rfl ⟨rfl, ?_⟩
      rw [betB_iff.2 ⟨k, hk', hb⟩]
    · repeat' (first | refine zP ?_ | refine zA ?_ | (refine zM ?_; intro _ _) | refine zX ?_ | (refine zC ?_; intro _ _ _ _) | (refine zS ?_; intro _ _) | (apply Ws <;> intro hg))
      refine Ends.loop (k + 1) (by omega) (by repeat' (first | exact .nil | refine .cons rfl ?_)) rfl ⟨rfl, hk', fun j hj => ?_⟩
      by_cases he : j = k
      · subst he; exact hb
      · exact hno j (by omega)
  · have hkl : k + 1 = l.length := by omega
    repeat' (first | refine zP ?_ | refine zA ?_ | (refine zM ?_; intro _ _) | refine zX ?_ | (refine zC ?_; intro _ _ _ _) | (refine zS ?_; intro _ _) | (apply Ws <;> intro hg))
    refine Ends.ret1 rfl ⟨rfl, ?_⟩
    have : betB (DP P) l = false := by
      cases hb : betB (DP P) l with
      | false => rfl
      | true =>
        obtain ⟨j, hj, hd⟩ := betB_iff.1 hb
        exact absurd hd (hno j (by omega))
    rw [this]
end
end Go.Proofs.Ytdlfikobjnjmaaa.Tt

/- Is a list a ring. -/
namespace Go.Proofs.Ytdlfikobjnjmaaa.Tt
open Go Go.Abs Go.Mth
set_option linter.unusedVariables false
set_option linter.unusedSimpArgs false
theorem closB_min {D : Nat → Nat → Int} {l : List Nat} (h : ¬ ∀ j, j < l.length → l.getD 0 0 ≤ l.getD j 0) : closB D l = false := by
  cases hb : closB D l with
  | false => rfl
  | true => exact absurd (fun j hj => (cycB_iff.1 (Bool.and_eq_true_iff.1 hb).1 j hj).1) h
def strK (D : Nat → Nat → Int) (l : List Nat) (k : Nat) : Bool := (List.range k).any fun i => decide (0 < D (l.getD i 0) (nxtE l i))
theorem strK_succ (D : Nat → Nat → Int) (l : List Nat) (k : Nat) : strK D l (k + 1) = (strK D l k || decide (0 < D (l.getD k 0) (nxtE l k))) := by simp [strK, List.range_succ]
theorem closB_bad {D : Nat → Nat → Int} {l : List Nat} {k : Nat} (hk : k < l.length) (h : ¬ 0 ≤ D (l.getD k 0) (nxtE l k)) : closB D l = false := by
  cases hb : closB D l with
  | false => rfl
  | true => exact absurd (cycB_iff.1 (Bool.and_eq_true_iff.1 hb).1 k hk).2 h
theorem closB_all {D : Nat → Nat → Int} {l : List Nat} (hm : ∀ j, j < l.length → l.getD 0 0 ≤ l.getD j 0) (h : ∀ k, k < l.length → 0 ≤ D (l.getD k 0) (nxtE l k)) : closB D l = strK D l l.length := by
  have : cycB D l = true := cycB_iff.2 fun i hi => ⟨hm i hi, h i hi⟩
  unfold closB; rw [this, Bool.true_and]; rfl
theorem nxtE_mem {l : List Nat} {i : Nat} (h : 0 < l.length) : nxtE l i ∈ l := getD_mem (Nat.mod_lt _ h)
attribute [local irreducible] gOK WS WC WR WD Ends FS YS OpV seqK blockK loopK midK retK rdK asgK rangeEnd sat Cell
section
variable {M : HL} {n0 : Nat} {H : Heap} {v w : Value}
set_option maxHeartbeats 1000000 in
theorem isRing_fs (hH : hasH M n0 H) {P : List (List Int)} (hP : SqP P) (hR : RowsI M v P) {l : List Nat} (hS : Sl M 1 w (nodes l)) (hl : l.length ≤ 1000) (hlt : ∀ x ∈ l, x < P.length) :
    FS C 36 [v, w] H (fun e H' => H' = H ∧ e = .bool (closB (DP P) l)) := by
  refine FS.intro (pf := pf36) rfl rfl rfl ?_
  repeat' (first | refine zP ?_ | refine zA ?_ | (refine zM ?_; intro _ _) | refine zX ?_ | (refine zC ?_; intro _ _ _ _) | (refine zS ?_; intro _ _) | (apply Ws <;> intro hg))
  by_cases h0 : l.length = 0
  · refine WC.regionD ?_
    repeat' (first | refine WD.guardF rfl rfl (stands_nil _ _) ?_ | refine WD.guardU rfl rfl (stands_nil _ _) ?_ | refine zD ?_ | (refine zE ?_; intro _ _ _ _))
    rw [show (decide ((l.length : Int) = 0)) = true from decide_eq_true (by omega)]
    repeat' (first | refine WD.guardF rfl rfl (stands_nil _ _) ?_ | refine WD.guardU rfl rfl (stands_nil _ _) ?_ | refine zD ?_ | (refine zE ?_; intro _ _ _ _))
    refine WD.guardF rfl rfl (by exact zSt) ?_
    repeat' (first | refine WD.guardF rfl rfl (stands_nil _ _) ?_ | refine WD.guardU rfl rfl (stands_nil _ _) ?_ | refine zD ?_ | (refine zE ?_; intro _ _ _ _))
    refine WD.nil ?_
    repeat' (first | refine zP ?_ | refine zA ?_ | (refine zM ?_; intro _ _) | refine zX ?_ | (refine zC ?_; intro _ _ _ _) | (refine zS ?_; intro _ _) | (apply Ws <;> intro hg))
    refine Ends.ret1 rfl ⟨rfl, ?_⟩
    rw [List.length_eq_zero_iff.1 h0]; rfl
  · refine WC.regionD ?_
    repeat' (first | refine WD.guardF rfl rfl (stands_nil _ _) ?_ | refine WD.guardU rfl rfl (stands_nil _ _) ?_ | refine zD ?_ | (refine zE ?_; intro _ _ _ _))
    rw [show (decide ((l.length : Int) = 0)) = false from decide_eq_false (by omega)]
    have hnl : (nodes l).length = l.length := by simp
    repeat' (first | refine WD.guardF rfl rfl (stands_nil _ _) ?_ | refine WD.guardU rfl rfl (stands_nil _ _) ?_ | refine zD ?_ | (refine zE ?_; intro _ _ _ _))
    rename_i b0 o0 u0 hc0
    have hn0 : (nodes l).getD 0 undef = .int .i64 (l.getD 0 0 : Nat) := by
      rw [getD_eq (by simp; omega), getD_eq (show 0 < l.length by omega)]; simp
    rw [hn0] at hc0 ⊢
    refine WD.call (by first | exact gN | exact gS rfl) rfl rfl (Min_fs hH hS hl (by omega)) ?_
    rintro _ H2 ⟨rfl, m, rfl, hm⟩
    refine ⟨stands_cons (.inr (holds_at (hc0.read hH) (same_int _ _))) stands_nil', ?_⟩
    refine WD.toWR rfl ?_
    repeat' (first | refine zP ?_ | refine zA ?_ | (refine zM ?_; intro _ _) | refine zX ?_ | (refine zC ?_; intro _ _ _ _) | (refine zS ?_; intro _ _) | (apply Ws <;> intro hg))
    refine WC.condP rfl (fun hne => ?_) (fun hne => ?_)
    · repeat' (first | refine zP ?_ | refine zA ?_ | (refine zM ?_; intro _ _) | refine zX ?_ | (refine zC ?_; intro _ _ _ _) | (refine zS ?_; intro _ _) | (apply Ws <;> intro hg))
      refine Ends.ret1 rfl ⟨rfl, ?_⟩
      rw [closB_min fun h => hne (by rw [hm.2 h])]
    · have hmin := hm.1 (by omega)
      repeat' (first | refine zP ?_ | refine zA ?_ | (refine zM ?_; intro _ _) | refine zX ?_ | (refine zC ?_; intro _ _ _ _) | (refine zS ?_; intro _ _) | (apply Ws <;> intro hg))
      refine WC.loopX [(0, _), (1, _), (20, _), (21, _)] (fun k : Nat => [(5, .bool (strK (DP P) l k)), (22, .int .i64 (k : Int))]) [] (fun k H' => H' = H2 ∧ k ≤ l.length ∧ ∀ j, j < k → 0 ≤ DP P (l.getD j 0) (nxtE l j)) (fun k => l.length - k) 0 (by repeat' (first | exact .nil | refine .cons rfl ?_)) rfl ⟨rfl, Nat.zero_le _, fun j h => absurd h (Nat.not_lt_zero _)⟩ ?_
      rintro k H' ⟨rfl, hk, hno⟩
      dsimp only [List.cons_append, List.nil_append]
      repeat' (first | refine zP ?_ | refine zA ?_ | (refine zM ?_; intro _ _) | refine zX ?_ | (refine zC ?_; intro _ _ _ _) | (refine zS ?_; intro _ _) | (apply Ws <;> intro hg))
      refine WC.condP rfl (fun hltk => ?_) (fun hltk => ?_)
      · have hk' : k < l.length := by omega
        have hl1 := hlt _ (getD_mem (a := 0) hk')
        have hl2 := hlt _ (nxtE_mem (i := k) (by omega))
        have hmod : (k + 1) % l.length < l.length := Nat.mod_lt _ (by omega)
        have hsu := strK_succ (DP P) l k
        repeat' (first | refine zP ?_ | refine zA ?_ | (refine zM ?_; intro _ _) | refine zX ?_ | (refine zC ?_; intro _ _ _ _) | (refine zS ?_; intro _ _) | (apply Ws <;> intro hg))
        rw [show ((k : Int) + 1) % (l.length : Int) = (((k + 1) % l.length : Nat) : Int) by simp]
        repeat' (first | refine zP ?_ | refine zA ?_ | (refine zM ?_; intro _ _) | refine zX ?_ | (refine zC ?_; intro _ _ _ _) | (refine zS ?_; intro _ _) | (apply Ws <;> intro hg))
        rw [show l.getD ((k + 1) % l.length) 0 = nxtE l k from rfl]
        refine WR.call (by first | exact gN | exact gS rfl) rfl rfl (asGood_fs hH hP hR hl1 hl2) ?_
        rintro _ _ ⟨rfl, rfl⟩
        cases hg1 : gD (DP P) (l.getD k 0) (nxtE l k) with
        | false =>
          repeat' (first | refine zP ?_ | refine zA ?_ | (refine zM ?_; intro _ _) | refine zX ?_ | (refine zC ?_; intro _ _ _ _) | (refine zS ?_; intro _ _) | (apply Ws <;> intro hg))
          refine Ends.ret1 rfl ⟨rfl, ?_⟩
          rw [closB_bad hk' fun h => by rw [gD_iff.2 h] at hg1; cases hg1]
        | true =>
          have hno2 : ∀ j, j < k + 1 → 0 ≤ DP P (l.getD j 0) (nxtE l j) := fun j hj => by
            by_cases he : j = k
            · subst he; exact gD_iff.1 hg1
            · exact hno j (by omega)
          cases hst : strK (DP P) l k with
          | true =>
            rw [hst, Bool.true_or] at hsu
            repeat' (first | refine zP ?_ | refine zA ?_ | (refine zM ?_; intro _ _) | refine zX ?_ | (refine zC ?_; intro _ _ _ _) | (refine zS ?_; intro _ _) | (apply Ws <;> intro hg))
            exact Ends.loop (k + 1) (by omega) (by simp only [hsu]; exact (by repeat' (first | exact .nil | refine .cons rfl ?_))) rfl ⟨rfl, hk', hno2⟩
          | false =>
            rw [hst, Bool.false_or] at hsu
            repeat' (first | refine zP ?_ | refine zA ?_ | (refine zM ?_; intro _ _) | refine zX ?_ | (refine zC ?_; intro _ _ _ _) | (refine zS ?_; intro _ _) | (apply Ws <;> intro hg))
            refine WR.call (by first | exact gN | exact gS rfl) rfl rfl (better_fs hH hP hR hl1 hl2) ?_
            rintro _ _ ⟨rfl, rfl⟩
            repeat' (first | refine zP ?_ | refine zA ?_ | (refine zM ?_; intro _ _) | refine zX ?_ | (refine zC ?_; intro _ _ _ _) | (refine zS ?_; intro _ _) | (apply Ws <;> intro hg))
            exact Ends.loop (k + 1) (by omega) (by simp only [hsu]; exact (by repeat' (first | exact .nil | refine .cons rfl ?_))) rfl ⟨rfl, hk', hno2⟩
      · have hkl : k = l.length := by omega
        subst hkl
        repeat' (first | refine zP ?_ | refine zA ?_ | (refine zM ?_; intro _ _) | refine zX ?_ | (refine zC ?_; intro _ _ _ _) | (refine zS ?_; intro _ _) | (apply Ws <;> intro hg))
        refine Ends.ret1 rfl ⟨rfl, ?_⟩
        rw [closB_all hmin hno]
end
end Go.Proofs.Ytdlfikobjnjmaaa.Tt

/- Sales: their check, their costs. -/
namespace Go.Proofs.Ytdlfikobjnjmaaa.Tt
open Go Go.Abs Go.Mth
set_option linter.unusedVariables false
set_option linter.unusedSimpArgs false
abbrev Sal := List Int × List Int
abbrev noSal : Sal := ([], [])
def pairV (w : Value × Value) : List Value := [w.1, w.2]
theorem pairV_len (w : Value × Value) : (pairV w).length = 2 := rfl
abbrev noVal : Value × Value := (undef, undef)
def SalesI (M : HL) (v : Value) (S : List Sal) : Prop := ∃ ws : List (Value × Value), Sl M 2 v (cellsF pairV ws) ∧ ws.length = S.length ∧
  ∀ i, i < S.length → Sl M 1 (ws.getD i noVal).1 (ints (S.getD i noSal).1) ∧ Sl M 1 (ws.getD i noVal).2 (ints (S.getD i noSal).2)
theorem SalesI.mono {M M' : HL} {v : Value} {S : List Sal} (h : SalesI M v S) (k : ∀ q ∈ M, q ∈ M') : SalesI M' v S := by
  obtain ⟨ws, q1, q2, q3⟩ := h
  exact ⟨ws, q1.mono k, q2, fun i hi => ⟨(q3 i hi).1.mono k, (q3 i hi).2.mono k⟩⟩
theorem SalesI.cons {M : HL} {p : Nat × Ch} {v : Value} {S : List Sal} (h : SalesI M v S) : SalesI (p :: M) v S := h.mono fun q hq => List.mem_cons_of_mem _ hq
theorem SalesI.one_ {M : HL} {v : Value} {S : List Sal} (h : SalesI M v S) : one v = true := by obtain ⟨ws, q1, _⟩ := h; exact q1.one_
theorem one2 {a b : Value} (ha : one a = true) (hb : one b = true) : [a, b].all one = true := by simp [ha, hb]
def saleE (g : Int) (s : Sal) : Int := if (s.1.length : Int) ≠ g ∨ (s.2.length : Int) ≠ g then 5 else if withB 1 9 s.1 && withB 0 9 s.2 then 0 else 1
def errS (g : Int) (S : List Sal) : Int := if g < 1 ∨ 3 < g then 1 else if 6 < S.length then 3 else firstE (fun i => saleE g (S.getD i noSal)) S.length
structure OKS (g : Nat) (S : List Sal) : Prop where
  g1 : 1 ≤ g
  g3 : g ≤ 3
  len : S.length ≤ 6
  lp : ∀ i, i < S.length → (S.getD i noSal).1.length = g
  lt : ∀ i, i < S.length → (S.getD i noSal).2.length = g
  bp : ∀ i, i < S.length → ∀ x ∈ (S.getD i noSal).1, 1 ≤ x ∧ x ≤ 9
  bt : ∀ i, i < S.length → ∀ x ∈ (S.getD i noSal).2, 0 ≤ x ∧ x ≤ 9
theorem withB_iff {lo hi : Int} {xs : List Int} : withB lo hi xs = true ↔ ∀ x ∈ xs, lo ≤ x ∧ x ≤ hi := by
  simp only [withB, List.all_eq_true, Bool.and_eq_true, decide_eq_true_eq]
theorem saleE_zero {g : Int} {s : Sal} : saleE g s = 0 ↔ (s.1.length : Int) = g ∧ (s.2.length : Int) = g ∧ (∀ x ∈ s.1, 1 ≤ x ∧ x ≤ 9) ∧ ∀ x ∈ s.2, 0 ≤ x ∧ x ≤ 9 := by
  unfold saleE
  by_cases h : (s.1.length : Int) ≠ g ∨ (s.2.length : Int) ≠ g
  · rw [if_pos h]
    constructor
    · intro k; exact absurd k (by decide)
    · rintro ⟨k1, k2, _⟩; rcases h with h | h <;> contradiction
  · rw [if_neg h]
    have k1 : (s.1.length : Int) = g := Decidable.not_not.1 fun k => h (.inl k)
    have k2 : (s.2.length : Int) = g := Decidable.not_not.1 fun k => h (.inr k)
    by_cases hb : (withB 1 9 s.1 && withB 0 9 s.2) = true
    · rw [if_pos hb]
      rw [Bool.and_eq_true, withB_iff, withB_iff] at hb
      exact ⟨fun _ => ⟨k1, k2, hb.1, hb.2⟩, fun _ => rfl⟩
    · rw [if_neg hb]
      rw [Bool.and_eq_true, withB_iff, withB_iff] at hb
      exact ⟨fun k => absurd k (by decide), fun k => absurd ⟨k.2.2.1, k.2.2.2⟩ hb⟩
theorem errS_zero {g : Int} {S : List Sal} : errS g S = 0 ↔ ∃ n : Nat, g = n ∧ OKS n S := by
  unfold errS
  by_cases h1 : g < 1 ∨ 3 < g
  · rw [if_pos h1]
    constructor
    · intro k; exact absurd k (by decide)
    · rintro ⟨n, rfl, hn⟩
      have q1 := hn.g1
      have q2 := hn.g3
      omega
  · rw [if_neg h1]
    by_cases h2 : 6 < S.length
    · rw [if_pos h2]
      constructor
      · intro k; exact absurd k (by decide)
      · rintro ⟨n, rfl, hn⟩
        have q1 := hn.len
        omega
    · rw [if_neg h2, firstE_zero]
      constructor
      · intro h
        refine ⟨g.toNat, by omega, by omega, by omega, by omega, fun i hi => ?_, fun i hi => ?_, fun i hi => ?_, fun i hi => ?_⟩
        · have := (saleE_zero.1 (h i hi)).1; omega
        · have := (saleE_zero.1 (h i hi)).2.1; omega
        · exact (saleE_zero.1 (h i hi)).2.2.1
        · exact (saleE_zero.1 (h i hi)).2.2.2
      · rintro ⟨n, rfl, hn⟩ i hi
        exact saleE_zero.2 ⟨by rw [hn.lp i hi], by rw [hn.lt i hi], hn.bp i hi, hn.bt i hi⟩
def dotI (p t : List Int) : Nat → Int
  | 0 => 0
  | k + 1 => dotI p t k + p.getD k 0 * t.getD k 0
theorem dot_bd {p t : List Int} (hp : ∀ x ∈ p, 1 ≤ x ∧ x ≤ 9) (ht : ∀ x ∈ t, 0 ≤ x ∧ x ≤ 9) : ∀ k, k ≤ p.length → k ≤ t.length → 0 ≤ dotI p t k ∧ dotI p t k ≤ 81 * k
  | 0, _, _ => by simp [dotI]
  | k + 1, h1, h2 => by
    have ih := dot_bd hp ht k (by omega) (by omega)
    have q1 := hp _ (getD_mem (a := 0) (show k < p.length by omega))
    have q2 := ht _ (getD_mem (a := 0) (show k < t.length by omega))
    have q3 : 0 ≤ p.getD k 0 * t.getD k 0 := Int.mul_nonneg (by omega) q2.1
    have q4 : p.getD k 0 * t.getD k 0 ≤ 9 * 9 := Int.mul_le_mul q1.2 q2.2 q2.1 (by decide)
    simp only [dotI]
    omega
def cs (S : List Sal) (a b : Nat) : Int := dotI (S.getD a noSal).1 (S.getD b noSal).2 (S.getD a noSal).1.length
def rowS (S : List Sal) (a : Nat) : List Int := (List.range S.length).map (cs S a)
def matS (S : List Sal) : List (List Int) := (List.range S.length).map (rowS S)
theorem rowS_len (S : List Sal) (a : Nat) : (rowS S a).length = S.length := by simp [rowS]
theorem matS_len (S : List Sal) : (matS S).length = S.length := by simp [matS]
theorem rowS_get {S : List Sal} {a b : Nat} (h : b < S.length) : (rowS S a).getD b 0 = cs S a b := by
  rw [getD_eq (by rw [rowS_len]; exact h)]; simp [rowS]
theorem matS_get {S : List Sal} {a : Nat} (h : a < S.length) : (matS S).getD a [] = rowS S a := by
  rw [getD_eq (by rw [matS_len]; exact h)]; simp [matS]
theorem OKS.cs_bd {g : Nat} {S : List Sal} (h : OKS g S) {a b : Nat} (ha : a < S.length) (hb : b < S.length) : 0 ≤ cs S a b ∧ cs S a b ≤ 243 := by
  have := dot_bd (h.bp a ha) (h.bt b hb) (S.getD a noSal).1.length (Nat.le_refl _) (by rw [h.lp a ha, h.lt b hb]; exact Nat.le_refl _)
  have q1 := h.g3
  have q2 := h.lp a ha
  unfold cs
  rw [q2] at this ⊢
  omega
theorem OKS.sq {g : Nat} {S : List Sal} (h : OKS g S) : SqP (matS S) := by
  refine ⟨by rw [matS_len]; exact h.len, fun i hi => ?_, fun i j => ?_⟩
  · rw [matS_len] at hi ⊢; rw [matS_get hi, rowS_len]
  · by_cases hi : i < S.length
    · rw [matS_get hi]
      by_cases hj : j < S.length
      · rw [rowS_get hj]; exact h.cs_bd hi hj
      · rw [List.getD_eq_getElem?_getD, List.getElem?_eq_none (by rw [rowS_len]; omega)]; decide
    · rw [List.getD_eq_getElem?_getD (l := matS S), List.getElem?_eq_none (by rw [matS_len]; omega)]; simp
attribute [local irreducible] gOK WS WC WR WD Ends FS YS OpV seqK blockK loopK midK retK rdK asgK rangeEnd sat Cell
section
variable {M : HL} {n0 : Nat} {H : Heap} {v w : Value}
set_option maxHeartbeats 1000000 in
theorem Check_fs (hH : hasH M n0 H) {S : List Sal} (hS : SalesI M v S) (hl : S.length ≤ 1000) (hll : ∀ i, i < S.length → (S.getD i noSal).1.length ≤ 1000 ∧ (S.getD i noSal).2.length ≤ 1000) (g : Int) :
    FS C 32 [.int .i64 g, v] H (fun e H' => ∃ n', n0 ≤ n' ∧ hasH M n' H' ∧ e = .int .i64 (errS g S)) := by
  obtain ⟨ws, hV, hwl, hrow⟩ := hS
  refine FS.intro (pf := pf32) rfl rfl rfl ?_
  repeat' (first | refine zP ?_ | refine zA ?_ | (refine zM ?_; intro _ _) | refine zX ?_ | (refine zC ?_; intro _ _ _ _) | (refine zS ?_; intro _ _) | (apply Ws <;> intro hg))
  · refine Ends.ret1 rfl ⟨n0, Nat.le_refl _, hH, ?_⟩
    unfold errS
    rw [if_pos (by omega)]
  · refine WC.condP rfl (fun hg3 => ?_) (fun hg3 => ?_)
    · repeat' (first | refine zP ?_ | refine zA ?_ | (refine zM ?_; intro _ _) | refine zX ?_ | (refine zC ?_; intro _ _ _ _) | (refine zS ?_; intro _ _) | (apply Ws <;> intro hg))
      refine Ends.ret1 rfl ⟨n0, Nat.le_refl _, hH, ?_⟩
      unfold errS
      rw [if_pos (by omega)]
    · have hgr : ¬ (g < 1 ∨ 3 < g) := by omega
      repeat' (first | refine zP ?_ | refine zA ?_ | (refine zM ?_; intro _ _) | refine zX ?_ | (refine zC ?_; intro _ _ _ _) | (refine zS ?_; intro _ _) | (apply Ws <;> intro hg))
      refine WR.op (by first | exact gN | exact gS rfl) rfl (OpV.lenK pairV_len (by decide) rfl hV) ?_
      repeat' (first | refine zP ?_ | refine zA ?_ | (refine zM ?_; intro _ _) | refine zX ?_ | (refine zC ?_; intro _ _ _ _) | (refine zS ?_; intro _ _) | (apply Ws <;> intro hg))
      refine WC.condP rfl (fun hbig => ?_) (fun hbig => ?_)
      · repeat' (first | refine zP ?_ | refine zA ?_ | (refine zM ?_; intro _ _) | refine zX ?_ | (refine zC ?_; intro _ _ _ _) | (refine zS ?_; intro _ _) | (apply Ws <;> intro hg))
        refine Ends.ret1 rfl ⟨n0, Nat.le_refl _, hH, ?_⟩
        unfold errS
        rw [if_neg hgr, if_pos (by omega)]
      · repeat' (first | refine zP ?_ | refine zA ?_ | (refine zM ?_; intro _ _) | refine zX ?_ | (refine zC ?_; intro _ _ _ _) | (refine zS ?_; intro _ _) | (apply Ws <;> intro hg))
        refine WR.op (by first | exact gN | exact gS rfl) rfl (OpV.lenK pairV_len (by decide) rfl hV) ?_
        repeat' (first | refine zP ?_ | refine zA ?_ | (refine zM ?_; intro _ _) | refine zX ?_ | (refine zC ?_; intro _ _ _ _) | (refine zS ?_; intro _ _) | (apply Ws <;> intro hg))
        refine WC.loopX [(0, _), (1, _), (16, _), (17, _)] (fun s : Nat × Nat => [(18, .int .i64 (s.1 : Int))]) [] (fun s H' => s.1 ≤ S.length ∧ n0 ≤ s.2 ∧ hasH M s.2 H' ∧ firstE (fun i => saleE g (S.getD i noSal)) s.1 = 0) (fun s => S.length - s.1) (0, n0) (by repeat' (first | exact .nil | refine .cons rfl ?_)) rfl ⟨Nat.zero_le _, Nat.le_refl _, hH, rfl⟩ ?_
        clear hH
        rintro ⟨k, n2⟩ H2 ⟨hk, hn2, hH2, hz⟩
        simp only at hk hn2 hH2 hz
        dsimp only [List.cons_append, List.nil_append]
        repeat' (first | refine zP ?_ | refine zA ?_ | (refine zM ?_; intro _ _) | refine zX ?_ | (refine zC ?_; intro _ _ _ _) | (refine zS ?_; intro _ _) | (apply Ws <;> intro hg))
        refine WC.condP rfl (fun hltk => ?_) (fun hltk => ?_)
        · have hk' : k < S.length := by omega
          obtain ⟨hp, ht⟩ := hrow k hk'
          obtain ⟨hlp, hlt⟩ := hll k hk'
          have herr : saleE g (S.getD k noSal) ≠ 0 → errS g S = saleE g (S.getD k noSal) := fun hne => by
            unfold errS
            rw [if_neg hgr, if_neg (by omega), firstE_at (f := fun i => saleE g (S.getD i noSal)) hz hne hk']
          have hz2 : saleE g (S.getD k noSal) = 0 → firstE (fun i => saleE g (S.getD i noSal)) (k + 1) = 0 := fun h => firstE_succ hz h
          have hwk : ws[k] = ws.getD k noVal := (getD_eq (by omega)).symm
          repeat' (first | refine zP ?_ | refine zA ?_ | (refine zM ?_; intro _ _) | refine zX ?_ | (refine zC ?_; intro _ _ _ _) | (refine zS ?_; intro _ _) | (apply Ws <;> intro hg))
          refine WR.idxK pairV_len (by decide) (by first | exact gN | exact gS rfl) rfl rfl hV rfl (by omega) fun b o u hC => ?_
          rw [hwk] at hC
          have hsd : S.getD k noSal = ((S.getD k noSal).1, (S.getD k noSal).2) := rfl
          have hone := one2 hp.one_ ht.one_
          generalize ws.getD k noVal = wk at hp ht hC hone
          obtain ⟨w1, w2⟩ := wk
          refine WR.op (by first | exact gN | exact gS rfl) rfl (OpV.loadK rfl hC hH2 rfl) ?_
          repeat' (first | refine zP ?_ | refine zA ?_ | (refine zM ?_; intro _ _) | refine zX ?_ | (refine zC ?_; intro _ _ _ _) | (refine zS ?_; intro _ _) | (apply Ws <;> intro hg))
          rename_i H3 hH3
          refine WR.storeAll (by first | exact gN | exact gS rfl) hH3 rfl rfl (ls := [w1, w2]) rfl rfl .here hone rfl fun H4 hH4 => ?_
          clear hH3 hH2
          generalize S.getD k noSal = sk at hp ht hlp hlt herr hz2
          obtain ⟨p, t⟩ := sk
          simp only at hp ht hlp hlt herr
          replace hp := hp.cons (p := (n2, Ch.row 31 0 0 [w1, w2]))
          replace ht := ht.cons (p := (n2, Ch.row 31 0 0 [w1, w2]))
          have hback : ∀ {n' : Nat} {H' : Heap}, hasH ((n2, Ch.row 31 0 0 [w1, w2]) :: M) n' H' → hasH M n' H' := fun h => h.tail
          have h5 : ((p.length : Int) ≠ g ∨ (t.length : Int) ≠ g) → saleE g (p, t) = 5 := fun h => by unfold saleE; rw [if_pos h]
          have h1 : ¬ ((p.length : Int) ≠ g ∨ (t.length : Int) ≠ g) → (withB 1 9 p && withB 0 9 t) = false → saleE g (p, t) = 1 := fun h k => by unfold saleE; rw [if_neg h, k]; rfl
          have h0 : ¬ ((p.length : Int) ≠ g ∨ (t.length : Int) ≠ g) → (withB 1 9 p && withB 0 9 t) = true → saleE g (p, t) = 0 := fun h k => by unfold saleE; rw [if_neg h, k]; rfl
          repeat' (first | refine zP ?_ | refine zA ?_ | (refine zM ?_; intro _ _) | refine zX ?_ | (refine zC ?_; intro _ _ _ _) | (refine zS ?_; intro _ _) | (apply Ws <;> intro hg))
          · have e5 := h5 (.inl ‹_›)
            refine Ends.ret1 rfl ⟨n2 + 1, by omega, hback hH4, ?_⟩
            rw [herr (by rw [e5]; decide), e5]
          · refine WC.condP rfl (fun htl => ?_) (fun htl => ?_)
            · have e5 := h5 (.inr htl)
              repeat' (first | refine zP ?_ | refine zA ?_ | (refine zM ?_; intro _ _) | refine zX ?_ | (refine zC ?_; intro _ _ _ _) | (refine zS ?_; intro _ _) | (apply Ws <;> intro hg))
              refine Ends.ret1 rfl ⟨n2 + 1, by omega, hback hH4, ?_⟩
              rw [herr (by rw [e5]; decide), e5]
            · have hsh : ¬ ((p.length : Int) ≠ g ∨ (t.length : Int) ≠ g) := by omega
              repeat' (first | refine zP ?_ | refine zA ?_ | (refine zM ?_; intro _ _) | refine zX ?_ | (refine zC ?_; intro _ _ _ _) | (refine zS ?_; intro _ _) | (apply Ws <;> intro hg))
              refine WR.call (by first | exact gN | exact gS rfl) rfl rfl (within_fs hH4 hp (by omega) 1 9) ?_
              rintro _ H5 ⟨rfl, rfl⟩
              cases hw1 : withB 1 9 p with
              | false =>
                have e5 := h1 hsh (by rw [hw1]; rfl)
                repeat' (first | refine zP ?_ | refine zA ?_ | (refine zM ?_; intro _ _) | refine zX ?_ | (refine zC ?_; intro _ _ _ _) | (refine zS ?_; intro _ _) | (apply Ws <;> intro hg))
                refine Ends.ret1 rfl ⟨n2 + 1, by omega, hback hH4, ?_⟩
                rw [herr (by rw [e5]; decide), e5]
              | true =>
                repeat' (first | refine zP ?_ | refine zA ?_ | (refine zM ?_; intro _ _) | refine zX ?_ | (refine zC ?_; intro _ _ _ _) | (refine zS ?_; intro _ _) | (apply Ws <;> intro hg))
                refine WR.call (by first | exact gN | exact gS rfl) rfl rfl (within_fs hH4 ht (by omega) 0 9) ?_
                rintro _ H6 ⟨rfl, rfl⟩
                cases hw2 : withB 0 9 t with
                | false =>
                  have e5 := h1 hsh (by rw [hw2, hw1]; rfl)
                  repeat' (first | refine zP ?_ | refine zA ?_ | (refine zM ?_; intro _ _) | refine zX ?_ | (refine zC ?_; intro _ _ _ _) | (refine zS ?_; intro _ _) | (apply Ws <;> intro hg))
                  refine Ends.ret1 rfl ⟨n2 + 1, by omega, hback hH4, ?_⟩
                  rw [herr (by rw [e5]; decide), e5]
                | true =>
                  have e0 := h0 hsh (by rw [hw2, hw1]; rfl)
                  repeat' (first | refine zP ?_ | refine zA ?_ | (refine zM ?_; intro _ _) | refine zX ?_ | (refine zC ?_; intro _ _ _ _) | (refine zS ?_; intro _ _) | (apply Ws <;> intro hg))
                  exact Ends.loop (k + 1, n2 + 1) (by simp only; omega) (by repeat' (first | exact .nil | refine .cons rfl ?_)) rfl ⟨by simp only; omega, by simp only; omega, hback hH4, hz2 e0⟩
        · have hkl : k = S.length := by omega
          subst hkl
          repeat' (first | refine zP ?_ | refine zA ?_ | (refine zM ?_; intro _ _) | refine zX ?_ | (refine zC ?_; intro _ _ _ _) | (refine zS ?_; intro _ _) | (apply Ws <;> intro hg))
          refine Ends.ret1 rfl ⟨n2, hn2, hH2, ?_⟩
          unfold errS
          rw [if_neg hgr, if_neg (by omega), hz]
end
end Go.Proofs.Ytdlfikobjnjmaaa.Tt

/- Slices that have at least so much room: cut, appended to within it, cleared. -/
namespace Go.Abs
set_option linter.unusedSectionVars false
variable [Globs]
open Go Go.Mth
set_option linter.unusedVariables false
set_option linter.unusedSimpArgs false
attribute [local irreducible] gOK WS WC WR WD Ends FS YS seqK blockK loopK midK retK rdK asgK rangeEnd sat

/-- The room that is sure. -/
def capR (cp len R : Nat) : Prop := (cp = 2 * 1 ∧ R = len) ∨ (cp = roomCode 1 R ∧ len ≤ R)
theorem capR.le {cp len R : Nat} (h : capR cp len R) : len ≤ R := by rcases h with ⟨_, h⟩ | ⟨_, h⟩ <;> omega

section
variable {C : CW} {nt : Nat} {L : Env} {D : List Nat} {H : Heap} {K : St → Prop} {M M' : HL} {n i d : Nat} {gd : Option (Tmp × Bool)} {lo' : List Nat} {l : List POp}
/-- One element more for a slice of one's own: it can be written then. -/
theorem WR.append1R {j d2 : Nat} {e sz : Nat} {z : List Value} {s x : Operand} {v y : Value} {cs new : List Value} {Mx T : HL} (hd : Nat.blt d nt = true) (hd2 : Nat.blt d2 nt = true)
    (hx : ev L x = some y) (hs : ev ((d, .slice (some ⟨n, 0, some 0⟩) 1 (2 * 1 + 1)) :: L) s = some v) (hO : Own e sz v cs Mx) (hH : hasH (Mx ++ T) n H)
    (hc : Instr.fill (fun j => some (j * sz, sz)) z.toArray [(0, y)] = some new.toArray) (hone : new.all one = true) (hl : new.length = sz) (hs1 : 1 ≤ sz) (hs2 : sz ≤ 1000) (hsm : cs.length + new.length ≤ 100000)
    (kk : ∀ v' Mx' n' H', OwnR e sz v' (cs ++ new) Mx' → hasH (Mx' ++ T) n' H' → n ≤ n' → WR C nt l ((d2, v') :: (d, .slice (some ⟨n, 0, some 0⟩) 1 (2 * 1 + 1)) :: L) D H' K) :
    WR C nt (⟨i, some d, .bldS e sz z 1 [(0, x)], none, []⟩ :: ⟨j, some d2, .append e sz s (.tmp d), none, lo'⟩ :: l) L D H K := by
  refine WR.bldS gN hd hH (vs := [(0, y)]) (by simp only [evp, hx]) hc hone fun H1 hH1 => ?_
  have hx2 : srcCells H1 sz 1 (.slice (some ⟨n, 0, some 0⟩) 1 (2 * 1 + 1)) = some new := by
    have := hH1.readN (b := n) (u := 0) (lo := 0) (o := 0) (k := 1 * sz) (ch := .row e 0 0 new) (cs := new) (by simp) (.row _ _ _ _) (Nat.le_refl _) (by omega)
    have hk : (new.drop (0 - 0)).take (1 * sz) = new := by rw [Nat.one_mul, ← hl]; simp
    simp only [srcCells, this, hk]
  obtain ⟨v', Mx', n', H', q1, q2, q3, q4⟩ := append_ownR (P := C.c.P) hO hH1.tail rfl hx2 (by omega) (Nat.le_refl _) hone hs1 hs2 hsm
  have hy : ev ((d, .slice (some ⟨n, 0, some 0⟩) 1 (2 * 1 + 1)) :: L) (.tmp d) = some (.slice (some ⟨n, 0, some 0⟩) 1 (2 * 1 + 1)) := by simp [ev, Env.get]
  refine WR.op gN hd2 (H' := H') (v := v') (fun t ht => ?_) (kk v' Mx' n' H' q2 q3 (by omega))
  simp only [opA, ev_ok ht hs, ev_ok ht hy, q1]

theorem WR.append1RF {j d2 : Nat} {e sz : Nat} {z : List Value} {s x : Operand} {v y : Value} {cs new : List Value} (F Mx T : HL) (hd : Nat.blt d nt = true) (hd2 : Nat.blt d2 nt = true)
    (hx : ev L x = some y) (hs : ev ((d, .slice (some ⟨n, 0, some 0⟩) 1 (2 * 1 + 1)) :: L) s = some v) (hO : Own e sz v cs Mx) (hH : hasH (F ++ (Mx ++ T)) n H)
    (hc : Instr.fill (fun j => some (j * sz, sz)) z.toArray [(0, y)] = some new.toArray) (hone : new.all one = true) (hl : new.length = sz) (hs1 : 1 ≤ sz) (hs2 : sz ≤ 1000) (hsm : cs.length + new.length ≤ 100000)
    (kk : ∀ v' Mx' n' H', OwnR e sz v' (cs ++ new) Mx' → hasH (F ++ (Mx' ++ T)) n' H' → n ≤ n' → WR C nt l ((d2, v') :: (d, .slice (some ⟨n, 0, some 0⟩) 1 (2 * 1 + 1)) :: L) D H' K) :
    WR C nt (⟨i, some d, .bldS e sz z 1 [(0, x)], none, []⟩ :: ⟨j, some d2, .append e sz s (.tmp d), none, lo'⟩ :: l) L D H K :=
  WR.append1R hd hd2 hx hs hO hH.pull hc hone hl hs1 hs2 hsm fun v' Mx' n' H' q1 q2 q3 => kk v' Mx' n' H' q1 q2.push q3
end
end Go.Abs

/- The costs of sales. -/
namespace Go.Proofs.Ytdlfikobjnjmaaa.Tt
open Go Go.Abs Go.Mth
set_option linter.unusedVariables false
set_option linter.unusedSimpArgs false
def RowsP (M : HL) (ws : List Value) (vs : List (List Int)) : Prop := ws.length = vs.length ∧ ∀ i, i < vs.length → Sl M 1 (ws.getD i undef) (ints (vs.getD i []))
theorem RowsP.mono {M M' : HL} {ws : List Value} {vs : List (List Int)} (h : RowsP M ws vs) (k : ∀ p ∈ M, p ∈ M') : RowsP M' ws vs := ⟨h.1, fun i hi => (h.2 i hi).mono k⟩
theorem RowsP.nil (M : HL) : RowsP M [] [] := ⟨rfl, fun i h => absurd h (Nat.not_lt_zero _)⟩
theorem RowsP.snoc {M : HL} {ws : List Value} {w : Value} {vs : List (List Int)} {r : List Int} (h : RowsP M ws vs) (hw : Sl M 1 w (ints r)) : RowsP M (ws ++ [w]) (vs ++ [r]) := by
  refine ⟨by simp [h.1], fun i hi => ?_⟩
  rw [List.length_append, List.length_singleton] at hi
  by_cases e : i < vs.length
  · rw [getD_app_l (by rw [h.1]; exact e), getD_app_l e]; exact h.2 i e
  · have : i = vs.length := by omega
    subst this
    rw [getD_snoc, show vs.length = ws.length from h.1.symm, getD_snoc]; exact hw
theorem RowsP.rows {M : HL} {v : Value} {ws : List Value} {vs : List (List Int)} (hS : Sl M 1 v ws) (h : RowsP M ws vs) : RowsI M v vs := ⟨ws, hS, h.1, h.2⟩
theorem fill1 {v : Value} (h : one v = true) : Instr.fill (fun j => some (j * 1, 1)) [Value.slice none 0 0].toArray [(0, v)] = some [v].toArray := by
  cases v <;> first | rfl | cases h
structure CO where
  a : Nat
  v : Value
  ws : List Value
  Mo : HL
  Mi : HL
  n : Nat
structure CI where
  b : Nat
  v : Value
  Mr : HL
  Mg : HL
  n : Nat
theorem take_snoc' {α : Type} {l : List α} {k : Nat} {d : α} (h : k < l.length) : l.take (k + 1) = l.take k ++ [l.getD k d] := by
  rw [List.take_succ_eq_append_getElem h, getD_eq h]
attribute [local irreducible] gOK WS WC WR WD Ends FS YS OpV seqK blockK loopK midK retK rdK asgK rangeEnd sat Cell
section
variable {M : HL} {n0 : Nat} {H : Heap} {v w : Value}
set_option maxHeartbeats 4000000 in
theorem costsOf_fs (hH : hasH M n0 H) {g : Nat} {S : List Sal} (hok : OKS g S) (hS : SalesI M v S) :
    FS C 33 [v] H (fun e H' => ∃ n' M2, n0 ≤ n' ∧ hasH (M2 ++ M) n' H' ∧ RowsI (M2 ++ M) e (matS S)) := by
  obtain ⟨ws0, hV, hwl, hrow⟩ := hS
  have hlen := hok.len
  have hg3 := hok.g3
  have hml := matS_len S
  refine FS.intro (pf := pf33) rfl rfl rfl ?_
  repeat' (first | refine zP ?_ | refine zA ?_ | (refine zM ?_; intro _ _) | refine zX ?_ | (refine zC ?_; intro _ _ _ _) | (refine zS ?_; intro _ _) | (apply Ws <;> intro hg))
  refine WR.op (by first | exact gN | exact gS rfl) rfl (OpV.lenK pairV_len (by decide) rfl hV) ?_
  rw [hwl]
  repeat' (first | refine zP ?_ | refine zA ?_ | (refine zM ?_; intro _ _) | refine zX ?_ | (refine zC ?_; intro _ _ _ _) | (refine zS ?_; intro _ _) | (apply Ws <;> intro hg))
  refine WC.loopX [(0, _), (12, _), (13, _)] (fun s : CO => [(3, s.v), (14, .int .i64 (s.a : Int))]) [] (fun s H' => s.a ≤ S.length ∧ n0 ≤ s.n ∧ Own 29 1 s.v s.ws s.Mo ∧ RowsP (s.Mi ++ M) s.ws ((matS S).take s.a) ∧ hasH (s.Mo ++ (s.Mi ++ M)) s.n H') (fun s => S.length - s.a) ⟨0, .slice none 0 0, [], [], [], n0⟩ (by repeat' (first | exact .nil | refine .cons rfl ?_)) rfl
    ⟨Nat.zero_le _, Nat.le_refl _, .nil, .nil _, hH⟩ ?_
  clear hH
  rintro ⟨a, va, ws, Mo, Mi, n1⟩ H1 ⟨ha, hn1, hO, hR, hH1⟩
  simp only at ha hn1 hO hR hH1
  dsimp only [List.cons_append, List.nil_append]
  repeat' (first | refine zP ?_ | refine zA ?_ | (refine zM ?_; intro _ _) | refine zX ?_ | (refine zC ?_; intro _ _ _ _) | (refine zS ?_; intro _ _) | (apply Ws <;> intro hg))
  refine WC.condP rfl (fun hlta => ?_) (fun hlta => ?_)
  · have ha' : a < S.length := by omega
    obtain ⟨hp, ht⟩ := hrow a ha'
    have hlp := hok.lp a ha'
    have hwk : ws0[a] = ws0.getD a noVal := (getD_eq (by omega)).symm
    have hone := one2 hp.one_ ht.one_
    have hbp := hok.bp a ha'
    have hcsa : ∀ b, cs S a b = dotI (S.getD a noSal).1 (S.getD b noSal).2 (S.getD a noSal).1.length := fun b => rfl
    have hVV : Sl (Mo ++ (Mi ++ M)) 2 v (cellsF pairV ws0) := hV.mono fun q hq => List.mem_append_right _ (List.mem_append_right _ hq)
    replace hp := hp.mono (M' := Mo ++ (Mi ++ M)) fun q hq => List.mem_append_right _ (List.mem_append_right _ hq)
    repeat' (first | refine zP ?_ | refine zA ?_ | (refine zM ?_; intro _ _) | refine zX ?_ | (refine zC ?_; intro _ _ _ _) | (refine zS ?_; intro _ _) | (apply Ws <;> intro hg))
    refine WR.idxK pairV_len (by decide) (by first | exact gN | exact gS rfl) rfl rfl hVV rfl (by omega) fun b o u hC => ?_
    rw [hwk] at hC
    generalize ws0.getD a noVal = wk at hp ht hC hone
    obtain ⟨w1, w2⟩ := wk
    simp only at hp ht hone
    refine WR.op (by first | exact gN | exact gS rfl) rfl (OpV.loadK rfl hC hH1 rfl) ?_
    repeat' (first | refine zP ?_ | refine zA ?_ | (refine zM ?_; intro _ _) | refine zX ?_ | (refine zC ?_; intro _ _ _ _) | (refine zS ?_; intro _ _) | (apply Ws <;> intro hg))
    rename_i H3 hH3
    refine WR.storeAll (by first | exact gN | exact gS rfl) hH3 rfl rfl (ls := [w1, w2]) rfl rfl .here hone rfl fun H4 hH4 => ?_
    clear hH3 hH1 hC
    generalize (S.getD a noSal).1 = pa at hp hlp hbp hcsa
    repeat' (first | refine zP ?_ | refine zA ?_ | (refine zM ?_; intro _ _) | refine zX ?_ | (refine zC ?_; intro _ _ _ _) | (refine zS ?_; intro _ _) | (apply Ws <;> intro hg))
    refine WR.op (by first | exact gN | exact gS rfl) rfl (OpV.lenK pairV_len (by decide) rfl hVV) ?_
    rw [hwl]
    repeat' (first | refine zP ?_ | refine zA ?_ | (refine zM ?_; intro _ _) | refine zX ?_ | (refine zC ?_; intro _ _ _ _) | (refine zS ?_; intro _ _) | (apply Ws <;> intro hg))
    have hrl := rowS_len S a
    refine WC.loopX [(0, _), (3, _), (5, _), (12, _), (13, _), (14, _), (18, _), (19, _)] (fun s : CI => [(6, s.v), (20, .int .i64 (s.b : Int))]) [] (fun s H' => s.b ≤ S.length ∧ n1 ≤ s.n ∧ Own 3 1 s.v (ints ((rowS S a).take s.b)) s.Mr ∧ hasH ((n1, .row 31 0 0 [w1, w2]) :: (s.Mr ++ (Mo ++ (Mi ++ M)))) s.n H') (fun s => S.length - s.b) ⟨0, .slice none 0 0, [], [], n1 + 1⟩ (by repeat' (first | exact .nil | refine .cons rfl ?_)) rfl
      ⟨Nat.zero_le _, Nat.le_succ _, .nil, hH4⟩ ?_
    clear hH4
    rintro ⟨b, vb, Mr, _, n2⟩ H5 ⟨hb, hn2, hOr, hH5⟩
    simp only at hb hn2 hOr hH5
    dsimp only [List.cons_append, List.nil_append]
    repeat' (first | refine zP ?_ | refine zA ?_ | (refine zM ?_; intro _ _) | refine zX ?_ | (refine zC ?_; intro _ _ _ _) | (refine zS ?_; intro _ _) | (apply Ws <;> intro hg))
    refine WC.condP rfl (fun hltb => ?_) (fun hltb => ?_)
    · have hb' : b < S.length := by omega
      obtain ⟨hp2, ht2⟩ := hrow b hb'
      have hlt2 := hok.lt b hb'
      have hbt := hok.bt b hb'
      have hwk2 : ws0[b] = ws0.getD b noVal := (getD_eq (by omega)).symm
      have hone2 := one2 hp2.one_ ht2.one_
      have hV2 : Sl ((n1, Ch.row 31 0 0 [w1, w2]) :: (Mr ++ (Mo ++ (Mi ++ M)))) 2 v (cellsF pairV ws0) := hVV.mono fun q hq => .tail _ (List.mem_append_right _ hq)
      replace ht2 := ht2.mono (M' := (n1, Ch.row 31 0 0 [w1, w2]) :: (Mr ++ (Mo ++ (Mi ++ M)))) fun q hq => .tail _ (List.mem_append_right _ (List.mem_append_right _ (List.mem_append_right _ hq)))
      have hcsb := hcsa b
      have hcg := rowS_get (a := a) hb'
      rw [hcsb] at hcg
      repeat' (first | refine zP ?_ | refine zA ?_ | (refine zM ?_; intro _ _) | refine zX ?_ | (refine zC ?_; intro _ _ _ _) | (refine zS ?_; intro _ _) | (apply Ws <;> intro hg))
      refine WR.idxK pairV_len (by decide) (by first | exact gN | exact gS rfl) rfl rfl hV2 rfl (by omega) fun b' o' u' hC2 => ?_
      rw [hwk2] at hC2
      generalize ws0.getD b noVal = wk2 at hp2 ht2 hC2 hone2
      obtain ⟨ub1, ub2⟩ := wk2
      simp only at hp2 ht2 hone2
      refine WR.op (by first | exact gN | exact gS rfl) rfl (OpV.loadK rfl hC2 hH5 rfl) ?_
      repeat' (first | refine zP ?_ | refine zA ?_ | (refine zM ?_; intro _ _) | refine zX ?_ | (refine zC ?_; intro _ _ _ _) | (refine zS ?_; intro _ _) | (apply Ws <;> intro hg))
      rename_i H6 hH6
      refine WR.storeAll (by first | exact gN | exact gS rfl) hH6 rfl rfl (ls := [ub1, ub2]) rfl rfl .here hone2 rfl fun H7 hH7 => ?_
      clear hH6 hH5 hC2
      generalize (S.getD b noSal).2 = tb at ht2 hlt2 hbt hcg
      have hpp : Sl ((n2, Ch.row 31 0 0 [ub1, ub2]) :: (n1, Ch.row 31 0 0 [w1, w2]) :: (Mr ++ (Mo ++ (Mi ++ M)))) 1 w1 (ints pa) := hp.mono fun q hq => .tail _ (.tail _ (List.mem_append_right _ hq))
      have htt : Sl ((n2, Ch.row 31 0 0 [ub1, ub2]) :: (n1, Ch.row 31 0 0 [w1, w2]) :: (Mr ++ (Mo ++ (Mi ++ M)))) 1 ub2 (ints tb) := ht2.cons
      repeat' (first | refine zP ?_ | refine zA ?_ | (refine zM ?_; intro _ _) | refine zX ?_ | (refine zC ?_; intro _ _ _ _) | (refine zS ?_; intro _ _) | (apply Ws <;> intro hg))
      refine WC.loopX [(0, _), (3, _), (5, _), (6, _), (8, _), (12, _), (13, _), (14, _), (18, _), (19, _), (20, _), (25, _), (26, _)] (fun k : Nat => [(9, .int .i64 (dotI pa tb k)), (27, .int .i64 (k : Int))]) [] (fun k H' => H' = H7 ∧ k ≤ pa.length) (fun k => pa.length - k) 0 (by repeat' (first | exact .nil | refine .cons rfl ?_)) rfl ⟨rfl, Nat.zero_le _⟩ ?_
      rintro k H8 ⟨rfl, hk⟩
      dsimp only [List.cons_append, List.nil_append]
      repeat' (first | refine zP ?_ | refine zA ?_ | (refine zM ?_; intro _ _) | refine zX ?_ | (refine zC ?_; intro _ _ _ _) | (refine zS ?_; intro _ _) | (apply Ws <;> intro hg))
      refine WC.condP rfl (fun hltk => ?_) (fun hltk => ?_)
      · have hk' : k < pa.length := by omega
        have hqa := dot_bd hbp hbt k (by omega) (by omega)
        have hqb := hbp _ (getD_mem (a := 0) hk')
        have hqc := hbt _ (getD_mem (a := 0) (show k < tb.length by omega))
        have hqd : 0 ≤ pa.getD k 0 * tb.getD k 0 := Int.mul_nonneg (by omega) hqc.1
        have hqe : pa.getD k 0 * tb.getD k 0 ≤ 9 * 9 := Int.mul_le_mul hqb.2 hqc.2 hqc.1 (by decide)
        have hqf : dotI pa tb (k + 1) = dotI pa tb k + pa.getD k 0 * tb.getD k 0 := rfl
        repeat' (first | refine zP ?_ | refine zA ?_ | (refine zM ?_; intro _ _) | refine zX ?_ | (refine zC ?_; intro _ _ _ _) | (refine zS ?_; intro _ _) | (apply Ws <;> intro hg))
        rw [← hqf]
        exact Ends.loop (k + 1) (by omega) (by repeat' (first | exact .nil | refine .cons rfl ?_)) rfl ⟨rfl, hk'⟩
      · have hkl : k = pa.length := by omega
        subst hkl
        have hbd := dot_bd hbp hbt pa.length (Nat.le_refl _) (by omega)
        repeat' (first | refine zP ?_ | refine zA ?_ | (refine zM ?_; intro _ _) | refine zX ?_ | (refine zC ?_; intro _ _ _ _) | (refine zS ?_; intro _ _) | (apply Ws <;> intro hg))
        refine WR.append1F [(n2, .row 31 0 0 [ub1, ub2]), (n1, .row 31 0 0 [w1, w2])] Mr (Mo ++ (Mi ++ M)) rfl rfl rfl rfl hOr hH7 (new := [.int .i64 (dotI pa tb pa.length)]) (by rfl) rfl rfl (Nat.le_refl _) (by omega) (by simp [hrl]; omega) fun v3 M3 n3 H9 hO3 hH9 hn3 => ?_
        replace hH9 : hasH ((n2, .row 31 0 0 [ub1, ub2]) :: (n1, .row 31 0 0 [w1, w2]) :: (M3 ++ (Mo ++ (Mi ++ M)))) n3 H9 := hH9
        repeat' (first | refine zP ?_ | refine zA ?_ | (refine zM ?_; intro _ _) | refine zX ?_ | (refine zC ?_; intro _ _ _ _) | (refine zS ?_; intro _ _) | (apply Ws <;> intro hg))
        refine Ends.loop ⟨b + 1, v3, M3, [], n3⟩ (by simp only; omega) (by repeat' (first | exact .nil | refine .cons rfl ?_)) rfl ⟨by simp only; omega, by simp only; omega, ?_, hH9.tail⟩
        simp only
        rw [take_snoc' (d := 0) (by omega), hcg]
        simpa [ints] using hO3
    · have hbl : b = S.length := by omega
      subst hbl
      rw [List.take_of_length_le (by omega)] at hOr
      have hu1 := (hOr.sl M).one_
      have hwsl := hR.1
      rw [List.length_take, hml] at hwsl
      repeat' (first | refine zP ?_ | refine zA ?_ | (refine zM ?_; intro _ _) | refine zX ?_ | (refine zC ?_; intro _ _ _ _) | (refine zS ?_; intro _ _) | (apply Ws <;> intro hg))
      refine WR.append1F ([(n1, .row 31 0 0 [w1, w2])] ++ Mr) Mo (Mi ++ M) rfl rfl rfl rfl hO (by simpa using hH5) (new := [vb]) (fill1 hu1) (by simp [hu1]) rfl (Nat.le_refl _) (by omega) (by simp; omega) fun v3 M3 n3 H6 hO3 hH6 hn3 => ?_
      replace hH6 : hasH ((n1, Ch.row 31 0 0 [w1, w2]) :: (Mr ++ (M3 ++ (Mi ++ M)))) n3 H6 := hH6
      repeat' (first | refine zP ?_ | refine zA ?_ | (refine zM ?_; intro _ _) | refine zX ?_ | (refine zC ?_; intro _ _ _ _) | (refine zS ?_; intro _ _) | (apply Ws <;> intro hg))
      refine Ends.loop ⟨a + 1, v3, ws ++ [vb], M3, Mr ++ Mi, n3⟩ (by simp only; omega) (by repeat' (first | exact .nil | refine .cons rfl ?_)) rfl ⟨by simp only; omega, by simp only; omega, hO3, ?_, ?_⟩
      · simp only
        rw [take_snoc' (d := []) (by omega), matS_get ha']
        refine RowsP.snoc (hR.mono fun q hq => by rw [List.append_assoc]; exact List.mem_append_right _ hq) ?_
        rw [List.append_assoc]
        exact hOr.sl (Mi ++ M)
      · simp only
        exact hH6.tail.perm (by classical exact List.perm_iff_count.2 (fun a => by simp only [defds, List.map_cons, List.map_nil, List.count_append, List.count_cons, List.count_nil, List.cons_append, List.nil_append, List.append_nil]; omega))
  · have hal : a = S.length := by omega
    subst hal
    rw [List.take_of_length_le (by omega)] at hR
    repeat' (first | refine zP ?_ | refine zA ?_ | (refine zM ?_; intro _ _) | refine zX ?_ | (refine zC ?_; intro _ _ _ _) | (refine zS ?_; intro _ _) | (apply Ws <;> intro hg))
    refine Ends.ret1 rfl ⟨n1, Mo ++ Mi, hn1, by simpa using hH1, ?_⟩
    rw [List.append_assoc]
    exact (hR.mono fun q hq => List.mem_append_right _ hq).rows (hO.sl (Mi ++ M))
end
end Go.Proofs.Ytdlfikobjnjmaaa.Tt

/- Lists that lead on, one after the other. -/
namespace Go.Proofs.Ytdlfikobjnjmaaa.Tt
open Go Go.Abs Go.Mth
set_option linter.unusedVariables false
set_option linter.unusedSimpArgs false
theorem nodes_one' (l : List Nat) : (nodes l).all one = true := by
  rw [List.all_eq_true]; intro q hq; obtain ⟨z, _, rfl⟩ := List.mem_map.1 hq; rfl
def RowsN (M : HL) (ws : List Value) (vs : List (List Nat)) : Prop := ws.length = vs.length ∧ ∀ i, i < vs.length → Sl M 1 (ws.getD i undef) (nodes (vs.getD i []))
theorem RowsN.mono {M M' : HL} {ws : List Value} {vs : List (List Nat)} (h : RowsN M ws vs) (k : ∀ p ∈ M, p ∈ M') : RowsN M' ws vs := ⟨h.1, fun i hi => (h.2 i hi).mono k⟩
theorem RowsN.nil (M : HL) : RowsN M [] [] := ⟨rfl, fun i h => absurd h (Nat.not_lt_zero _)⟩
theorem RowsN.snoc {M : HL} {ws : List Value} {w : Value} {vs : List (List Nat)} {r : List Nat} (h : RowsN M ws vs) (hw : Sl M 1 w (nodes r)) : RowsN M (ws ++ [w]) (vs ++ [r]) := by
  refine ⟨by simp [h.1], fun i hi => ?_⟩
  rw [List.length_append, List.length_singleton] at hi
  by_cases e : i < vs.length
  · rw [getD_app_l (by rw [h.1]; exact e), getD_app_l e]; exact h.2 i e
  · have : i = vs.length := by omega
    subst this
    rw [getD_snoc, show vs.length = ws.length from h.1.symm, getD_snoc]; exact hw
theorem RowsN.tail {M : HL} {ws : List Value} {z : List Nat} {vs : List (List Nat)} (h : RowsN M ws (z :: vs)) : RowsN M (ws.drop 1) vs := by
  have hl := h.1
  refine ⟨by rw [List.length_drop, hl]; rfl, fun i hi => ?_⟩
  have := h.2 (i + 1) (by simpa using hi)
  rw [List.getD_eq_getElem?_getD, List.getElem?_drop, Nat.add_comm, ← List.getD_eq_getElem?_getD]
  exact this
def extK (g : Nat → Nat → Bool) (l : List Nat) (k : Nat) : List (List Nat) := ((List.range k).filter fun x => g (l.getD (l.length - 1) 0) x && !decide (x ∈ l)).map fun x => l ++ [x]
theorem extK_all (g : Nat → Nat → Bool) (n : Nat) (l : List Nat) : extK g l n = extL g n l := rfl
theorem extK_succ (g : Nat → Nat → Bool) (l : List Nat) (k : Nat) : extK g l (k + 1) = extK g l k ++ if (g (l.getD (l.length - 1) 0) k && !decide (k ∈ l)) = true then [l ++ [k]] else [] := by
  unfold extK
  rw [List.range_succ, List.filter_append, List.map_append]
  congr 1
  by_cases h : (g (l.getD (l.length - 1) 0) k && !decide (k ∈ l)) = true
  · rw [if_pos h]; simp only [List.filter, h, List.map]
  · rw [if_neg h, Bool.not_eq_true] at *; simp only [List.filter, h, List.map]
theorem Bfs.mem {f : List Nat → List (List Nat)} : ∀ {W R : List (List Nat)}, Bfs f W R → ∀ w ∈ W, w ∈ R := by
  intro W R h
  induction h with
  | nil => intro w hw; exact hw
  | cons h ih =>
    intro w hw
    rcases List.mem_cons.1 hw with rfl | hw
    · exact .head _
    · exact .tail _ (ih w (List.mem_append_left _ hw))
theorem Bfs.len {f : List Nat → List (List Nat)} {W R : List (List Nat)} (h : Bfs f W R) : W.length ≤ R.length := by
  induction h with
  | nil => exact Nat.le_refl _
  | cons h ih => simp at ih ⊢; omega
theorem flat_len {α β : Type} {f : α → List β} {c : Nat} : ∀ {W : List α}, (∀ w ∈ W, (f w).length ≤ c) → (W.flatMap f).length ≤ W.length * c
  | [], _ => by simp
  | w :: W, h => by
    have h1 := h w (.head _)
    have h2 := flat_len (W := W) fun v hv => h v (.tail _ hv)
    rw [List.flatMap_cons, List.length_append, List.length_cons, Nat.succ_mul]
    omega
theorem extN_len {g : Nat → Nat → Bool} {n : Nat} {l : List Nat} (h : Chain g n l) : (extN g n l).length < n := by
  have hl := h.len
  have hm : l.getD (l.length - 1) 0 ∈ l := getD_mem (by omega)
  have := filter_lt (p := fun x => g (l.getD (l.length - 1) 0) x && !decide (x ∈ l)) (q := fun _ => true) (y := l.getD (l.length - 1) 0) (l := List.range n) (fun _ _ _ => rfl) (List.mem_range.2 (h.2.1 _ hm)) (by simp only [decide_eq_true hm]; simp) rfl
  have e : (List.range n).filter (fun _ => true) = List.range n := List.filter_eq_self.2 (by simp)
  rw [e, List.length_range] at this
  exact this
theorem allC_len {g : Nat → Nat → Bool} {n : Nat} (hn : n ≤ 6) : (allC g n).length ≤ 90000 := by
  have hl : ∀ k, (lev g n k).length ≤ 6 * 5 ^ k := by
    intro k
    induction k with
    | zero => simp [lev]; omega
    | succ k ih =>
      have := flat_len (f := extL g n) (c := 5) (W := lev g n k) fun w hw => by
        have := extN_len (mem_lev.1 hw).1
        unfold extL; rw [List.length_map]; omega
      show ((lev g n k).flatMap (extL g n)).length ≤ 6 * 5 ^ (k + 1)
      rw [Nat.pow_succ]
      omega
  have : ∀ m, m ≤ 6 → ((List.range m).flatMap (lev g n)).length ≤ m * 3750 + (if 5 < m then 18750 else 0) := by
    intro m
    induction m with
    | zero => intro _; simp
    | succ m ih =>
      intro h
      have h1 := ih (by omega)
      have h2 := hl m
      rw [List.range_succ, List.flatMap_append, List.length_append]
      simp only [List.flatMap_cons, List.flatMap_nil, List.append_nil]
      rcases (show m = 0 ∨ m = 1 ∨ m = 2 ∨ m = 3 ∨ m = 4 ∨ m = 5 by omega) with rfl | rfl | rfl | rfl | rfl | rfl <;> simp at h1 h2 ⊢ <;> omega
  have h6 := this n hn
  unfold allC
  split at h6 <;> omega
structure W1 where
  k : Nat
  v : Value
  ws : List Value
  Mo : HL
  Mi : HL
  n : Nat
structure W2 where
  v : Value
  ws : List Value
  W : List (List Nat)
  R : List (List Nat)
  Mo : HL
  Mi : HL
  Mc : HL
  n : Nat
attribute [local irreducible] gOK WS WC WR WD Ends FS YS OpV seqK blockK loopK midK retK rdK asgK rangeEnd sat Cell
section
variable {M : HL} {n0 : Nat} {H : Heap} {v w : Value}
theorem Clone_fs (hH : hasH M n0 H) {l : List Nat} (hS : Sl M 1 v (nodes l)) (h0 : l ≠ []) (hl : l.length ≤ 1000) :
    FS C 5 [v] H (fun e H' => ∃ Mx n', OwnR 3 1 e (nodes l) Mx ∧ n0 ≤ n' ∧ hasH (Mx ++ M) n' H') := by
  have hne : nodes l ≠ [] := fun h => h0 (List.map_eq_nil_iff.1 h)
  have hl0 : 0 < l.length := List.length_pos_iff.2 h0
  have hsm : ∃ a len cap, v = .slice (some a) len cap := by
    generalize nodes l = cs at hS hne
    cases hS with
    | nil c => exact absurd rfl hne
    | emp a => exact ⟨_, _, _, rfl⟩
    | row => exact ⟨_, _, _, rfl⟩
  obtain ⟨a, len, cap, rfl⟩ := hsm
  refine FS.intro (pf := pf5) rfl rfl rfl ?_
  repeat' (first | refine zP ?_ | refine zA ?_ | (refine zM ?_; intro _ _) | refine zX ?_ | (refine zC ?_; intro _ _ _ _) | (refine zS ?_; intro _ _) | (apply Ws <;> intro hg))
  refine WR.bldS (by first | exact gN | exact gS rfl) rfl hH (vs := []) rfl (cs := []) (by rfl) rfl fun H3 hH3 => ?_
  repeat' (first | refine zP ?_ | refine zA ?_ | (refine zM ?_; intro _ _) | refine zX ?_ | (refine zC ?_; intro _ _ _ _) | (refine zS ?_; intro _ _) | (apply Ws <;> intro hg))
  obtain ⟨hk, hsr⟩ := (hS.cons (p := (n0, .row 3 0 0 []))).src hH3 hne
  refine WR.appendNew (by first | exact gN | exact gS rfl) rfl rfl rfl hH3 (.head _) (.row _ _ _ _) (Nat.zero_le _) (Nat.zero_le _) hk (by have := hsr _ (Nat.le_refl _); rw [List.take_length] at this; exact this) (by simp) (by simp; omega) (nodes_one' _) (by omega) (by omega) (by simp; omega) fun H' hH' => ?_
  repeat' (first | refine zP ?_ | refine zA ?_ | (refine zM ?_; intro _ _) | refine zX ?_ | (refine zC ?_; intro _ _ _ _) | (refine zS ?_; intro _ _) | (apply Ws <;> intro hg))
  exact Ends.ret1 rfl ⟨[(n0 + 1, .row 3 0 0 (nodes l))], n0 + 2, .mk (by simp), by omega, hH'.sub (.cons_cons _ (List.sublist_cons_self _ _))⟩
set_option maxHeartbeats 4000000 in
theorem chainsIt_fs {l bc eC uC : Nat} {cv : Value} {P : List (List Int)} (hP : SqP P) {B : HL} {J : List (List Nat) → HL → Prop} {Stop : List Nat → Value → HL → Prop}
    (hH : hasH M n0 H) (hmC : (bc, Ch.row eC uC 0 [cv]) ∈ B) (hR : RowsI B cv P) (hB : ∀ zs Mc, J zs Mc → ∀ p ∈ B, p ∈ Mc) (hJ : J (allC (gD (DP P)) P.length) M)
    (hy : ∀ z zs Mc T u n' H', n0 ≤ n' → J (z :: zs) Mc → Chain (gD (DP P)) P.length z → Sl T 1 u (nodes z) → hasH (Mc ++ T) n' H' → YS C l [u] H'
      (fun r H2 => ∃ M2 n2, n' ≤ n2 ∧ hasH (M2 ++ T) n2 H2 ∧ ((r = .bool true ∧ J zs M2) ∨ (r = .bool false ∧ Stop z u M2)))) :
    FS C 48 [.func (.yield l) #[] #[], .pointer (some ⟨bc, 0, some uC⟩)] H (fun _ H' => ∃ M2 T n2, n0 ≤ n2 ∧ hasH (M2 ++ T) n2 H' ∧ (J [] M2 ∨ ∃ z u, Sl T 1 u (nodes z) ∧ Stop z u M2)) := by
  have hlen6 := hP.len
  have mC := hB _ _ hJ _ hmC
  obtain ⟨cws, hcS, hcl, hcrow⟩ := hR
  have hRB : RowsI B cv P := ⟨cws, hcS, hcl, hcrow⟩
  have hcS0 := hcS.mono (hB _ _ hJ)
  refine FS.intro (pf := pf48) rfl rfl rfl ?_
  repeat' (first | refine zP ?_ | refine zA ?_ | (refine zM ?_; intro _ _) | refine zX ?_ | (refine zC ?_; intro _ _ _ _) | (refine zS ?_; intro _ _) | (apply Ws <;> intro hg))
  rw [hcl]
  refine WC.loopX [(0, _), (1, _), (10, _)] (fun s : W1 => [(3, s.v), (11, .int .i64 (s.k : Int))]) [] (fun s H' => s.k ≤ P.length ∧ n0 ≤ s.n ∧ Own 29 1 s.v s.ws s.Mo ∧ RowsN s.Mi s.ws ((List.range s.k).map fun x => [x]) ∧ hasH (s.Mo ++ (s.Mi ++ M)) s.n H') (fun s => P.length - s.k) ⟨0, .slice none 0 0, [], [], [], n0⟩ (by repeat' (first | exact .nil | refine .cons rfl ?_)) rfl
    ⟨Nat.zero_le _, Nat.le_refl _, .nil, .nil _, hH⟩ ?_
  clear hH
  rintro ⟨k, va, ws, Mo, Mi, n1⟩ H1 ⟨hk, hn1, hO, hRw, hH1⟩
  simp only at hk hn1 hO hRw hH1
  dsimp only [List.cons_append, List.nil_append]
  repeat' (first | refine zP ?_ | refine zA ?_ | (refine zM ?_; intro _ _) | refine zX ?_ | (refine zC ?_; intro _ _ _ _) | (refine zS ?_; intro _ _) | (apply Ws <;> intro hg))
  refine WC.condP rfl (fun hltk => ?_) (fun hltk => ?_)
  · have hk' : k < P.length := by omega
    have hwl := hRw.1
    rw [List.length_map, List.length_range] at hwl
    repeat' (first | refine zP ?_ | refine zA ?_ | (refine zM ?_; intro _ _) | refine zX ?_ | (refine zC ?_; intro _ _ _ _) | (refine zS ?_; intro _ _) | (apply Ws <;> intro hg))
    refine WR.bldS (by first | exact gN | exact gS rfl) rfl hH1 (vs := [(0, .int .i64 (k : Int))]) rfl (cs := [.int .i64 (k : Int)]) (by rfl) rfl fun H2 hH2 => ?_
    refine WR.append1F [(n1, .row 3 0 0 [.int .i64 (k : Int)])] Mo (Mi ++ M) rfl rfl rfl rfl hO hH2 (new := [.slice (some ⟨n1, 0, some 0⟩) 1 (2 * 1 + 1)]) (by rfl) (by rfl) rfl (Nat.le_refl _) (by omega) (by simp; omega) fun v3 M3 n3 H6 hO3 hH6 hn3 => ?_
    replace hH6 : hasH ((n1, .row 3 0 0 [.int .i64 (k : Int)]) :: (M3 ++ (Mi ++ M))) n3 H6 := hH6
    repeat' (first | refine zP ?_ | refine zA ?_ | (refine zM ?_; intro _ _) | refine zX ?_ | (refine zC ?_; intro _ _ _ _) | (refine zS ?_; intro _ _) | (apply Ws <;> intro hg))
    refine Ends.loop ⟨k + 1, v3, ws ++ [.slice (some ⟨n1, 0, some 0⟩) 1 (2 * 1 + 1)], M3, (n1, .row 3 0 0 [.int .i64 (k : Int)]) :: Mi, n3⟩ (by simp only; omega) (by repeat' (first | exact .nil | refine .cons rfl ?_)) rfl ⟨by simp only; omega, by simp only; omega, hO3, ?_, ?_⟩
    · simp only
      rw [List.range_succ, List.map_append]
      refine RowsN.snoc (hRw.mono fun q hq => .tail _ hq) ?_
      exact .row (lo := 0) (cs := [.int .i64 (k : Int)]) (.head _) (.row _ _ _ _) (Nat.le_refl _) rfl (by simp) (by simp) (.inr ⟨1, rfl, Nat.le_refl _⟩)
    · exact hH6.perm (by classical exact List.perm_iff_count.2 (fun a => by simp only [defds, List.map_cons, List.map_nil, List.count_append, List.count_cons, List.count_nil, List.cons_append, List.nil_append, List.append_nil]; omega))
  · have hkl : k = P.length := by omega
    subst hkl
    repeat' (first | refine zP ?_ | refine zA ?_ | (refine zM ?_; intro _ _) | refine zX ?_ | (refine zC ?_; intro _ _ _ _) | (refine zS ?_; intro _ _) | (apply Ws <;> intro hg))
    have hbfs := bfs_all (g := gD (DP P)) (n := P.length)
    have hall : ∀ z ∈ allC (gD (DP P)) P.length, Chain (gD (DP P)) P.length z := fun z hz => mem_allC.1 hz
    have hal := allC_len (g := gD (DP P)) hlen6
    generalize allC (gD (DP P)) P.length = R0 at hJ hbfs hall hal
    refine WC.loopX [(0, _), (1, _)] (fun s : W2 => [(3, s.v)]) [] (fun s H' => n0 ≤ s.n ∧ Bfs (extL (gD (DP P)) P.length) s.W s.R ∧ s.R.length ≤ R0.length ∧ (∀ z ∈ s.R, Chain (gD (DP P)) P.length z) ∧ J s.R s.Mc ∧ Own 29 1 s.v s.ws s.Mo ∧ RowsN s.Mi s.ws s.W ∧ hasH (s.Mo ++ (s.Mi ++ s.Mc)) s.n H') (fun s => s.R.length) ⟨va, ws, _, R0, Mo, Mi, M, n1⟩ (by repeat' (first | exact .nil | refine .cons rfl ?_)) rfl
      ⟨hn1, hbfs, Nat.le_refl _, hall, hJ, hO, hRw, hH1⟩ ?_
    clear hH1 hRw hO hJ hbfs hall hcS0 mC
    rintro ⟨vb, ws, W, R, Mo, Mi, Mc, n2⟩ H2 ⟨hn2, hbfs, hRl, hall, hJ, hO, hRw, hH2⟩
    simp only at hn2 hbfs hRl hall hJ hO hRw hH2
    have hSv := hO.sl (Mi ++ Mc)
    have hwl := hRw.1
    dsimp only [List.cons_append, List.nil_append]
    repeat' (first | refine zP ?_ | refine zA ?_ | (refine zM ?_; intro _ _) | refine zX ?_ | (refine zC ?_; intro _ _ _ _) | (refine zS ?_; intro _ _) | (apply Ws <;> intro hg))
    refine WC.condP rfl (fun hpos => ?_) (fun hpos => ?_)
    · cases hbfs with
      | nil => simp at hwl; rw [hwl] at hpos; simp at hpos
      | @cons z W R hbfs =>
      have hz := hall z (.head _)
      have hzl := hz.len
      have hw0 := hRw.2 0 (by simp)
      have hwl1 : 1 ≤ ws.length := by omega
      have hSz : Sl Mi 1 (ws.getD 0 undef) (nodes z) := hw0
      repeat' (first | refine zP ?_ | refine zA ?_ | (refine zM ?_; intro _ _) | refine zX ?_ | (refine zC ?_; intro _ _ _ _) | (refine zS ?_; intro _ _) | (apply Ws <;> intro hg))
      refine WR.slOwnF [] Mo (Mi ++ Mc) (by first | exact gN | exact gS rfl) rfl rfl hO hH2 rfl (by omega) (Nat.le_refl _) (Nat.le_refl _) (fun v2 M2 hO2 hH3 => ?_) (by decide)
      clear hH2 hO hw0 hSv
      replace hH3 : hasH (M2 ++ (Mi ++ Mc)) n2 H2 := hH3
      replace hO2 : Own 29 1 v2 (ws.drop 1) M2 := hO2
      have hRt := hRw.tail
      generalize ws.getD 0 undef = u0 at hSz
      repeat' (first | refine zP ?_ | refine zA ?_ | (refine zM ?_; intro _ _) | refine zX ?_ | (refine zC ?_; intro _ _ _ _) | (refine zS ?_; intro _ _) | (apply Ws <;> intro hg))
      refine WR.yield (by first | exact gN | exact gS rfl) rfl rfl rfl (hy z R Mc (M2 ++ Mi) u0 n2 _ hn2 hJ hz (hSz.mono fun q hq => List.mem_append_right _ hq) (hH3.perm (by classical exact List.perm_iff_count.2 (fun a => by simp only [defds, List.map_cons, List.map_nil, List.count_append, List.count_cons, List.count_nil, List.cons_append, List.nil_append, List.append_nil]; omega)))) ?_
      clear hH3 hRw
      rintro r H4 ⟨Mc2, n4, hn4, hH4, ⟨rfl, hJ2⟩ | ⟨rfl, hSt⟩⟩
      · have hH5 : hasH (M2 ++ (Mi ++ Mc2)) n4 H4 := hH4.perm (by classical exact List.perm_iff_count.2 (fun a => by simp only [defds, List.map_cons, List.map_nil, List.count_append, List.count_cons, List.count_nil, List.cons_append, List.nil_append, List.append_nil]; omega))
        clear hH4 hJ
        repeat' (first | refine zP ?_ | refine zA ?_ | (refine zM ?_; intro _ _) | refine zX ?_ | (refine zC ?_; intro _ _ _ _) | (refine zS ?_; intro _ _) | (apply Ws <;> intro hg))
        have hSz2 : Sl (M2 ++ (Mi ++ Mc2)) 1 u0 (nodes z) := hSz.mono fun q hq => List.mem_append_right _ (List.mem_append_left _ hq)
        refine WR.call (by first | exact gN | exact gS rfl) rfl rfl (ends_fs hH5 hSz2 hzl.1 (by omega)) ?_
        rintro _ H6 ⟨rfl, rfl⟩
        have mC2 : (bc, Ch.row eC uC 0 [cv]) ∈ M2 ++ (Mi ++ Mc2) := List.mem_append_right _ (List.mem_append_right _ (hB _ _ hJ2 _ hmC))
        have hcS2 := hcS.mono (M' := M2 ++ (Mi ++ Mc2)) fun q hq => List.mem_append_right _ (List.mem_append_right _ (hB _ _ hJ2 _ hq))
        repeat' (first | refine zP ?_ | refine zA ?_ | (refine zM ?_; intro _ _) | refine zX ?_ | (refine zC ?_; intro _ _ _ _) | (refine zS ?_; intro _ _) | (apply Ws <;> intro hg))
        rw [hcl]
        clear hcS2 mC2 hSz2
        have hRl2 : R.length ≤ R0.length := by simp at hRl; omega
        have hzlast := hz.lt (j := z.length - 1) (by omega)
        have hext : ∀ k, k ≤ P.length → (W ++ extK (gD (DP P)) z k).length ≤ R0.length + 6 := fun k hk => by
          have := hbfs.len
          rw [List.length_append] at this ⊢
          have h6 : (extK (gD (DP P)) z k).length ≤ k := by
            unfold extK; rw [List.length_map]
            exact Nat.le_trans (List.length_filter_le _ _) (by simp)
          omega
        refine WC.loopX [(0, _), (1, _), (5, u0), (7, .int .i64 (z.getD (z.length - 1) 0 : Nat)), (38, .int .i64 (P.length : Int))] (fun s : W1 => [(3, s.v), (39, .int .i64 (s.k : Int))]) [] (fun s H' => s.k ≤ P.length ∧ n0 ≤ s.n ∧ Own 29 1 s.v s.ws s.Mo ∧ RowsN s.Mi s.ws (W ++ extK (gD (DP P)) z s.k) ∧ Sl s.Mi 1 u0 (nodes z) ∧ hasH (s.Mo ++ (s.Mi ++ Mc2)) s.n H') (fun s => P.length - s.k) ⟨0, v2, ws.drop 1, M2, Mi, n4⟩ (by repeat' (first | exact .nil | refine .cons rfl ?_)) rfl
          ⟨Nat.zero_le _, by simp only; omega, hO2, by simpa [extK] using hRt, hSz, hH5⟩ ?_
        clear hH5 hSz hRt hO2
        rintro ⟨k, v3, ws3, Mo3, Mi3, n5⟩ H7 ⟨hk, hn5, hO3, hR3, hSz, hH7⟩
        simp only at hk hn5 hO3 hR3 hSz hH7
        have hSz3 : Sl (Mo3 ++ (Mi3 ++ Mc2)) 1 u0 (nodes z) := hSz.mono fun q hq => List.mem_append_right _ (List.mem_append_left _ hq)
        have hu01 := hSz.one_
        have mC3 : (bc, Ch.row eC uC 0 [cv]) ∈ Mo3 ++ (Mi3 ++ Mc2) := List.mem_append_right _ (List.mem_append_right _ (hB _ _ hJ2 _ hmC))
        have hwl3 := hR3.1
        have hle3 := hext k hk
        dsimp only [List.cons_append, List.nil_append]
        repeat' (first | refine zP ?_ | refine zA ?_ | (refine zM ?_; intro _ _) | refine zX ?_ | (refine zC ?_; intro _ _ _ _) | (refine zS ?_; intro _ _) | (apply Ws <;> intro hg))
        refine WC.condP rfl (fun hltk => ?_) (fun hltk => ?_)
        · have hk' : k < P.length := by omega
          have hsu := extK_succ (gD (DP P)) z k
          have hRP : RowsI (Mo3 ++ (Mi3 ++ Mc2)) cv P := hRB.mono fun q hq => List.mem_append_right _ (List.mem_append_right _ (hB _ _ hJ2 _ hq))
          repeat' (first | refine zP ?_ | refine zA ?_ | (refine zM ?_; intro _ _) | refine zX ?_ | (refine zC ?_; intro _ _ _ _) | (refine zS ?_; intro _ _) | (apply Ws <;> intro hg))
          refine WR.call (by first | exact gN | exact gS rfl) rfl rfl (asGood_fs hH7 hP hRP hzlast hk') ?_
          rintro _ H8 ⟨rfl, rfl⟩
          cases hgd : gD (DP P) (z.getD (z.length - 1) 0) k with
          | false =>
            rw [hgd, Bool.false_and, if_neg (by decide), List.append_nil] at hsu
            repeat' (first | refine zP ?_ | refine zA ?_ | (refine zM ?_; intro _ _) | refine zX ?_ | (refine zC ?_; intro _ _ _ _) | (refine zS ?_; intro _ _) | (apply Ws <;> intro hg))
            exact Ends.loop ⟨k + 1, v3, ws3, Mo3, Mi3, n5⟩ (by simp only; omega) (by repeat' (first | exact .nil | refine .cons rfl ?_)) rfl ⟨by simp only; omega, hn5, hO3, by simp only; rw [hsu]; exact hR3, hSz, hH7⟩
          | true =>
            rw [hgd, Bool.true_and] at hsu
            repeat' (first | refine zP ?_ | refine zA ?_ | (refine zM ?_; intro _ _) | refine zX ?_ | (refine zC ?_; intro _ _ _ _) | (refine zS ?_; intro _ _) | (apply Ws <;> intro hg))
            refine WR.call (by first | exact gN | exact gS rfl) rfl rfl (Contains_fs hH7 hSz3 (by omega) k) ?_
            rintro _ H9 ⟨rfl, rfl⟩
            by_cases hm : k ∈ z
            · rw [decide_eq_true hm, Bool.not_true, if_neg (by decide), List.append_nil] at hsu
              rw [decide_eq_true hm]
              repeat' (first | refine zP ?_ | refine zA ?_ | (refine zM ?_; intro _ _) | refine zX ?_ | (refine zC ?_; intro _ _ _ _) | (refine zS ?_; intro _ _) | (apply Ws <;> intro hg))
              exact Ends.loop ⟨k + 1, v3, ws3, Mo3, Mi3, n5⟩ (by simp only; omega) (by repeat' (first | exact .nil | refine .cons rfl ?_)) rfl ⟨by simp only; omega, hn5, hO3, by simp only; rw [hsu]; exact hR3, hSz, hH7⟩
            · rw [decide_eq_false hm, Bool.not_false, if_pos rfl] at hsu
              rw [decide_eq_false hm]
              repeat' (first | refine zP ?_ | refine zA ?_ | (refine zM ?_; intro _ _) | refine zX ?_ | (refine zC ?_; intro _ _ _ _) | (refine zS ?_; intro _ _) | (apply Ws <;> intro hg))
              refine WR.call (by first | exact gN | exact gS rfl) rfl rfl (Clone_fs hH7 hSz3 (List.length_pos_iff.1 hzl.1) (by omega)) ?_
              rintro e9 H10 ⟨Mx, n10, hOx, hn10, hH10⟩
              repeat' (first | refine zP ?_ | refine zA ?_ | (refine zM ?_; intro _ _) | refine zX ?_ | (refine zC ?_; intro _ _ _ _) | (refine zS ?_; intro _ _) | (apply Ws <;> intro hg))
              refine WR.append1RF [] Mx (Mo3 ++ (Mi3 ++ Mc2)) rfl rfl rfl rfl hOx.own hH10 (new := [.int .i64 (k : Int)]) (by rfl) rfl rfl (Nat.le_refl _) (by omega) (by simp; omega) fun v4 M4 n11 H11 hO4 hH11 hn11 => ?_
              replace hH11 : hasH (M4 ++ (Mo3 ++ (Mi3 ++ Mc2))) n11 H11 := hH11
              have hv41 := (hO4.own.sl []).one_
              refine WR.append1F M4 Mo3 (Mi3 ++ Mc2) rfl rfl rfl rfl hO3 hH11 (new := [v4]) (fill1 hv41) (by simp [hv41]) rfl (Nat.le_refl _) (by omega) (by simp; omega) fun v5 M5 n12 H12 hO5 hH12 hn12 => ?_
              repeat' (first | refine zP ?_ | refine zA ?_ | (refine zM ?_; intro _ _) | refine zX ?_ | (refine zC ?_; intro _ _ _ _) | (refine zS ?_; intro _ _) | (apply Ws <;> intro hg))
              refine Ends.loop ⟨k + 1, v5, ws3 ++ [v4], M5, M4 ++ Mi3, n12⟩ (by simp only; omega) (by repeat' (first | exact .nil | refine .cons rfl ?_)) rfl ⟨by simp only; omega, by simp only; omega, hO5, ?_, hSz.mono fun q hq => List.mem_append_right _ hq, hH12.perm (by classical exact List.perm_iff_count.2 (fun a => by simp only [defds, List.map_cons, List.map_nil, List.count_append, List.count_cons, List.count_nil, List.cons_append, List.nil_append, List.append_nil]; omega))⟩
              simp only
              rw [hsu, ← List.append_assoc]
              refine RowsN.snoc (hR3.mono fun q hq => List.mem_append_right _ hq) ?_
              have := hO4.own.sl Mi3
              rw [show nodes (z ++ [k]) = nodes z ++ [.int .i64 (k : Int)] by simp [nodes]]
              exact this
        · have hkl : k = P.length := by omega
          subst hkl
          rw [extK_all] at hR3
          repeat' (first | refine zP ?_ | refine zA ?_ | (refine zM ?_; intro _ _) | refine zX ?_ | (refine zC ?_; intro _ _ _ _) | (refine zS ?_; intro _ _) | (apply Ws <;> intro hg))
          exact Ends.loop ⟨v3, ws3, _, R, Mo3, Mi3, Mc2, n5⟩ (by simp) (by repeat' (first | exact .nil | refine .cons rfl ?_)) rfl ⟨hn5, hbfs, hRl2, fun z' hz' => hall z' (.tail _ hz'), hJ2, hO3, hR3, hH7⟩
      · repeat' (first | refine zP ?_ | refine zA ?_ | (refine zM ?_; intro _ _) | refine zX ?_ | (refine zC ?_; intro _ _ _ _) | (refine zS ?_; intro _ _) | (apply Ws <;> intro hg))
        exact Ends.ret0 ⟨Mc2, M2 ++ Mi, n4, by omega, hH4, .inr ⟨z, u0, hSz.mono fun q hq => List.mem_append_right _ hq, hSt⟩⟩
    · have hw0 : W = [] := by
        rw [← List.length_eq_zero_iff, ← hwl]; omega
      subst hw0
      cases hbfs
      repeat' (first | refine zP ?_ | refine zA ?_ | (refine zM ?_; intro _ _) | refine zX ?_ | (refine zC ?_; intro _ _ _ _) | (refine zS ?_; intro _ _) | (apply Ws <;> intro hg))
      exact Ends.end0 ⟨Mc, Mo ++ Mi, n2, hn2, hH2.perm (by classical exact List.perm_iff_count.2 (fun a => by simp only [defds, List.map_cons, List.map_nil, List.count_append, List.count_cons, List.count_nil, List.cons_append, List.nil_append, List.append_nil]; omega)), .inl hJ⟩
end
end Go.Proofs.Ytdlfikobjnjmaaa.Tt

/- What sales tell of their taste. -/
namespace Go.Proofs.Ytdlfikobjnjmaaa.Tt
open Go Go.Abs Go.Mth
set_option linter.unusedVariables false
set_option linter.unusedSimpArgs false
def TabB (T : List Bool) (f : Nat → Nat → Bool) : Prop := T.length = 36 ∧ ∀ a b, a < 6 → b < 6 → T.getD (a * 6 + b) false = f a b
theorem TabB.zero : TabB (List.replicate 36 false) (fun _ _ => false) := ⟨by simp, fun a b ha hb => by
  rw [getD_eq (by simp; omega), List.getElem_replicate]⟩
theorem TabB.set {T : List Bool} {f f' : Nat → Nat → Bool} {a b : Nat} {x : Bool} (h : TabB T f) (ha : a < 6) (hb : b < 6) (h1 : f' a b = x) (h2 : ∀ p q, p < 6 → q < 6 → ¬ (p = a ∧ q = b) → f' p q = f p q) : TabB (T.set (a * 6 + b) x) f' := by
  refine ⟨by rw [List.length_set]; exact h.1, fun p q hp hq => ?_⟩
  rw [getD_set' (by have := h.1; omega)]
  by_cases e : p * 6 + q = a * 6 + b
  · obtain ⟨rfl, rfl⟩ : p = a ∧ q = b := by omega
    rw [if_pos rfl, h1]
  · rw [if_neg e, h.2 p q hp hq, h2 p q hp hq fun k => e (by rw [k.1, k.2])]
theorem TabB.congr {T : List Bool} {f f' : Nat → Nat → Bool} (h : TabB T f) (k : ∀ a b, a < 6 → b < 6 → f a b = f' a b) : TabB T f' := ⟨h.1, fun a b ha hb => by rw [h.2 a b ha hb, k a b ha hb]⟩
def anyB (D : Nat → Nat → Int) (ds : List (List Nat)) (a b : Nat) : Bool := ds.any fun l => decide (l.getD 0 0 = a) && decide (l.getD (l.length - 1) 0 = b) && betB D l
theorem anyB_snoc (D : Nat → Nat → Int) (ds : List (List Nat)) (z : List Nat) (a b : Nat) : anyB D (ds ++ [z]) a b = (anyB D ds a b || (decide (z.getD 0 0 = a) && decide (z.getD (z.length - 1) 0 = b) && betB D z)) := by
  simp [anyB, List.any_append]
def rkL (D : Nat → Nat → Int) (n : Nat) : List Nat := (List.range n).map (rkN D n)
structure RK where
  a : Nat
  F : List Nat
def cntB (D : Nat → Nat → Int) (n i k : Nat) : Nat := ((List.range k).filter (BTb D n i)).length
theorem cntB_succ (D : Nat → Nat → Int) (n i k : Nat) : cntB D n i (k + 1) = cntB D n i k + if BTb D n i k = true then 1 else 0 := by
  unfold cntB
  rw [List.range_succ, List.filter_append, List.length_append]
  congr 1
  by_cases h : BTb D n i k = true
  · rw [if_pos h]; simp only [List.filter, h, List.length_singleton]
  · rw [if_neg h, Bool.not_eq_true] at *; simp only [List.filter, h, List.length_nil]
theorem cntB_le (D : Nat → Nat → Int) (n i k : Nat) : cntB D n i k ≤ k := Nat.le_trans (List.length_filter_le _ _) (by simp)
def RInv (D : Nat → Nat → Int) (n : Nat) (F : List Nat) (a k : Nat) : Prop := F.length = n ∧ ∀ i, i < n → F.getD i 0 = if i < a then cntB D n i n else if i = a then cntB D n i k else 0
theorem RInv.step {D : Nat → Nat → Int} {n a k : Nat} {F : List Nat} (h : RInv D n F a k) (ha : a < n) (hb : BTb D n a k = true) : RInv D n (F.set a (F.getD a 0 + 1)) a (k + 1) := by
  refine ⟨by rw [List.length_set]; exact h.1, fun i hi => ?_⟩
  rw [getD_set' (by rw [h.1]; exact ha)]
  have h2 := h.2 a ha
  rw [if_neg (Nat.lt_irrefl _), if_pos rfl] at h2
  by_cases e : i = a
  · subst e
    rw [if_pos rfl, if_neg (Nat.lt_irrefl _), if_pos rfl, cntB_succ, if_pos hb, h2]
  · rw [if_neg e, h.2 i hi, if_neg e, if_neg e]
theorem RInv.skip {D : Nat → Nat → Int} {n a k : Nat} {F : List Nat} (h : RInv D n F a k) (hb : BTb D n a k = false) : RInv D n F a (k + 1) := by
  refine ⟨h.1, fun i hi => ?_⟩
  rw [h.2 i hi]
  by_cases e : i = a
  · subst e
    rw [if_neg (Nat.lt_irrefl _), if_pos rfl, if_neg (Nat.lt_irrefl _), if_pos rfl, cntB_succ, hb]; rfl
  · rw [if_neg e, if_neg e]
theorem RInv.next {D : Nat → Nat → Int} {n a : Nat} {F : List Nat} (h : RInv D n F a n) : RInv D n F (a + 1) 0 := by
  refine ⟨h.1, fun i hi => ?_⟩
  rw [h.2 i hi]
  by_cases e : i < a
  · rw [if_pos e, if_pos (by omega)]
  · by_cases e2 : i = a
    · subst e2
      rw [if_neg e, if_pos rfl, if_pos (by omega)]
    · rw [if_neg e, if_neg e2, if_neg (by omega)]
      by_cases e3 : i = a + 1
      · rw [if_pos e3]; rfl
      · rw [if_neg e3]
theorem RInv.fin {D : Nat → Nat → Int} {n : Nat} {F : List Nat} (h : RInv D n F n 0) : F = rkL D n := by
  refine ext_getD (a := 0) (by rw [h.1]; simp [rkL]) fun i hi => ?_
  rw [h.1] at hi
  rw [h.2 i hi, if_pos hi, getD_eq (by simp [rkL]; exact hi)]
  simp [rkL, rkN, cntB]
attribute [local irreducible] gOK WS WC WR WD Ends FS YS OpV seqK blockK loopK midK retK rdK asgK rangeEnd sat Cell
section
variable {M : HL} {n0 : Nat} {H : Heap} {v w : Value}
theorem chains_fs (hH : hasH M n0 H) {v : Value} (hv : one v = true) :
    FS C 35 [v] H (fun e H' => e = .func (.func 48) #[] #[.pointer (some ⟨n0, 0, some 0⟩)] ∧ hasH ((n0, .row 48 0 0 [v]) :: M) (n0 + 1) H') := by
  refine FS.intro (pf := pf35) rfl rfl rfl ?_
  repeat' (first | refine zP ?_ | refine zA ?_ | (refine zM ?_; intro _ _) | refine zX ?_ | (refine zC ?_; intro _ _ _ _) | (refine zS ?_; intro _ _) | (apply Ws <;> intro hg))
  refine WR.box1 (by first | exact gN | exact gS rfl) rfl hH rfl hv fun H1 hH1 => ?_
  repeat' (first | refine zP ?_ | refine zA ?_ | (refine zM ?_; intro _ _) | refine zX ?_ | (refine zC ?_; intro _ _ _ _) | (refine zS ?_; intro _ _) | (apply Ws <;> intro hg))
  exact Ends.ret1 rfl ⟨rfl, hH1⟩
set_option maxHeartbeats 4000000 in
theorem judge_fs (hH : hasH M n0 H) {P : List (List Int)} (hP : SqP P) (hR : RowsI M v P) :
    FS C 20 [v] H (fun e H' => ∃ n' M2 u, n0 ≤ n' ∧ hasH (M2 ++ M) n' H' ∧ one u = true ∧
      ((∃ z, (allC (gD (DP P)) P.length).find? (closB (DP P)) = some z ∧ Sl (M2 ++ M) 1 u (nodes z) ∧ e = .iface 55 u) ∨
       ((allC (gD (DP P)) P.length).find? (closB (DP P)) = none ∧ Sl (M2 ++ M) 1 u (nodes (rkL (DP P) P.length)) ∧ e = .iface 81 u))) := by
  have hv := hR.one_
  have hlen6 := hP.len
  refine FS.intro (pf := pf20) rfl rfl rfl ?_
  repeat' (first | refine zP ?_ | refine zA ?_ | (refine zM ?_; intro _ _) | refine zX ?_ | (refine zC ?_; intro _ _ _ _) | (refine zS ?_; intro _ _) | (apply Ws <;> intro hg))
  refine WR.box1 (by first | exact gN | exact gS rfl) rfl hH rfl hv fun H1 hH1 => ?_
  repeat' (first | refine zP ?_ | refine zA ?_ | (refine zM ?_; intro _ _) | refine zX ?_ | (refine zC ?_; intro _ _ _ _) | (refine zS ?_; intro _ _) | (apply Ws <;> intro hg))
  rename_i H2 hH2 H3 hH3
  replace hH3 : hasH ((n0 + 1 + 1, .row 74 0 0 (bools (List.replicate 36 false))) :: (n0 + 1, .row 58 0 0 [.nilIface]) :: (n0, .row 48 0 0 [v]) :: M) (n0 + 1 + 1 + 1) H3 := hH3
  refine WR.call (by first | exact gN | exact gS rfl) rfl rfl (chains_fs hH3 hv) ?_
  rintro _ H4 ⟨rfl, hH4⟩
  clear hH hH1 hH2 hH3
  repeat' (first | refine zP ?_ | refine zA ?_ | (refine zM ?_; intro _ _) | refine zX ?_ | (refine zC ?_; intro _ _ _ _) | (refine zS ?_; intro _ _) | (apply Ws <;> intro hg))
  refine WC.range0 (va := []) (vb := [.pointer (some ⟨n0 + 1 + 1 + 1, 0, some 0⟩)]) rfl hH4 fun t ht H6 hH6 => ?_
  generalize hRR : ({ state := .ready, pending := none, fn := 20, tmps := t, params := [12], assign := _, body := _, nt := _ } : LoopE) = R at hH6
  obtain ⟨nn, hnn, hnn0⟩ : ∃ nn, n0 + 1 + 1 + 1 + 1 + 2 = nn ∧ n0 ≤ nn := ⟨_, rfl, by omega⟩
  rw [hnn] at hH6
  generalize n0 + 1 + 1 + 1 + 1 + 1 = lp at hH6 ⊢
  generalize n0 + 1 + 1 + 1 + 1 = df at hH6 ⊢
  generalize n0 + 1 + 1 + 1 = b3 at hH6 ⊢
  generalize n0 + 1 + 1 = b2 at hH6 hRR ht ⊢
  generalize n0 + 1 = b1 at hH6 hRR ht ⊢
  clear hH4 hnn
  have hall0 := allC_len (g := gD (DP P)) hlen6
  refine FS.mono (chainsIt_fs (l := lp) (bc := b3) (eC := 48) (uC := 0) (cv := v) hP (B := (b3, .row 48 0 0 [v]) :: M)
    (J := fun zs Mc => ∃ ds T, ds ++ zs = allC (gD (DP P)) P.length ∧ (∀ d ∈ ds, closB (DP P) d = false) ∧ TabB T (anyB (DP P) ds) ∧
      Mc = (lp, .loop R) :: (df, .defd false) :: (b3, .row 48 0 0 [v]) :: (b2, .row 74 0 0 (bools T)) :: (b1, .row 58 0 0 [.nilIface]) :: (n0, .row 48 0 0 [v]) :: M)
    (Stop := fun z u Mc => closB (DP P) z = true ∧ (∃ ds zs, ds ++ z :: zs = allC (gD (DP P)) P.length ∧ ∀ d ∈ ds, closB (DP P) d = false) ∧ ∃ T,
      Mc = (lp, .loop { R with state := .done, pending := some .ret }) :: (df, .defd false) :: (b3, .row 48 0 0 [v]) :: (b2, .row 74 0 0 (bools T)) :: (b1, .row 58 0 0 [.iface 55 u]) :: (n0, .row 48 0 0 [v]) :: M)
    hH6 (.head _) (hR.mono fun q hq => .tail _ hq) ?_ ⟨[], _, rfl, fun d hd => (by cases hd), TabB.zero, rfl⟩ ?_) ?_
  · rintro zs Mc ⟨ds, T, _, _, _, rfl⟩ p hp
    rcases List.mem_cons.1 hp with rfl | hp
    · simp
    · simp [hp]
  · rintro z zs Mc T0 u n' H7 hn' ⟨ds, T, hds, hno, hT, rfl⟩ hz hSz hH7
    simp only [List.cons_append] at hH7
    have hzl := hz.len
    have hzlt := hz.2.1
    have hu1 := hSz.one_
    have hSz7 : Sl ((b3, Ch.row 48 0 0 [v]) :: (b2, Ch.row 74 0 0 (bools T)) :: (b1, Ch.row 58 0 0 [.nilIface]) :: (n0, Ch.row 48 0 0 [v]) :: (M ++ T0)) 1 u (nodes z) := hSz.mono fun q hq => by simp [hq]
    have hR7 : RowsI ((b3, Ch.row 48 0 0 [v]) :: (b2, Ch.row 74 0 0 (bools T)) :: (b1, Ch.row 58 0 0 [.nilIface]) :: (n0, Ch.row 48 0 0 [v]) :: (M ++ T0)) v P := hR.mono fun q hq => by simp [hq]
    refine YS.intro hH7 (.head _) (by rw [← hRR]) (by rw [← hRR]) (by rw [← hRR]; rfl) (by rw [← hRR]; exact ht) ?_
    subst hRR
    dsimp only
    repeat' (first | refine zA ?_ | (refine zM ?_; intro _ _) | (apply Ws <;> intro hg))
    refine Ends.asg hH7 .here fun H8 hH8 => ?_
    dsimp only
    clear hH7
    repeat' (first | refine zP ?_ | refine zA ?_ | (refine zM ?_; intro _ _) | refine zX ?_ | (refine zC ?_; intro _ _ _ _) | (refine zS ?_; intro _ _) | (apply Ws <;> intro hg))
    refine WR.call (by first | exact gN | exact gS rfl) rfl rfl (isRing_fs hH8 hP hR7.cons.cons hSz7.cons.cons (by omega) hzlt) ?_
    rintro _ H9 ⟨rfl, rfl⟩
    cases hcb : closB (DP P) z with
    | true =>
      have hi1 : one (.iface 55 u) = true := by cases u <;> first | rfl | cases hu1
      repeat' (first | refine zP ?_ | refine zA ?_ | (refine zM ?_; intro _ _) | refine zX ?_ | (refine zC ?_; intro _ _ _ _) | (refine zS ?_; intro _ _) | (apply Ws <;> intro hg))
      refine WR.storeBox (by first | exact gN | exact gS rfl) hH8 rfl rfl hi1 (.there (.there (.there (.there .here)))) fun H10 hH10 => ?_
      repeat' (first | refine zP ?_ | refine zA ?_ | (refine zM ?_; intro _ _) | refine zX ?_ | (refine zC ?_; intro _ _ _ _) | (refine zS ?_; intro _ _) | (apply Ws <;> intro hg))
      refine Ends.rd rfl rfl rfl hH10 .here fun H' h' => ⟨_ :: _ :: _ :: _ :: _ :: _ :: M, n', Nat.le_refl _, h', .inr ⟨rfl, rfl, ⟨ds, zs, hds, hno⟩, T, rfl⟩⟩
    | false =>
      repeat' (first | refine zP ?_ | refine zA ?_ | (refine zM ?_; intro _ _) | refine zX ?_ | (refine zC ?_; intro _ _ _ _) | (refine zS ?_; intro _ _) | (apply Ws <;> intro hg))
      refine WR.call (by first | exact gN | exact gS rfl) rfl rfl (ends_fs hH8 hSz7.cons.cons hzl.1 (by omega)) ?_
      rintro _ H9 ⟨rfl, rfl⟩
      repeat' (first | refine zP ?_ | refine zA ?_ | (refine zM ?_; intro _ _) | refine zX ?_ | (refine zC ?_; intro _ _ _ _) | (refine zS ?_; intro _ _) | (apply Ws <;> intro hg))
      refine WR.call (by first | exact gN | exact gS rfl) rfl rfl (hasBetter_fs hH8 hP hR7.cons.cons hSz7.cons.cons hzl.1 (by omega) hzlt) ?_
      rintro _ H9 ⟨rfl, rfl⟩
      have hno2 : ∀ d ∈ ds ++ [z], closB (DP P) d = false := fun d hd => by
        rcases List.mem_append.1 hd with hd | hd
        · exact hno d hd
        · rw [List.mem_singleton.1 hd]; exact hcb
      have hds2 : (ds ++ [z]) ++ zs = allC (gD (DP P)) P.length := by rw [← hds]; simp
      have ha6 := hz.lt (j := 0) (by omega)
      have hb6 := hz.lt (j := z.length - 1) (by omega)
      cases hbb : betB (DP P) z with
      | true =>
        have hT2 : TabB (T.set (z.getD 0 0 * 6 + z.getD (z.length - 1) 0) true) (anyB (DP P) (ds ++ [z])) := hT.set (by omega) (by omega) (by rw [anyB_snoc, hbb]; simp) fun p q hp hq hpq => by
          rw [anyB_snoc]
          have : (decide (z.getD 0 0 = p) && decide (z.getD (z.length - 1) 0 = q) && betB (DP P) z) = false := by
            by_cases e : z.getD 0 0 = p
            · by_cases e2 : z.getD (z.length - 1) 0 = q
              · exact absurd ⟨e.symm, e2.symm⟩ hpq
              · rw [decide_eq_false e2]; simp
            · rw [decide_eq_false e]; simp
          rw [this, Bool.or_false]
        have hTl := hT.1
        repeat' (first | refine zP ?_ | refine zA ?_ | (refine zM ?_; intro _ _) | refine zX ?_ | (refine zC ?_; intro _ _ _ _) | (refine zS ?_; intro _ _) | (apply Ws <;> intro hg))
        rename_i H10 hH10
        exact Ends.rd rfl rfl rfl hH10 .here fun H' h' => ⟨_ :: _ :: _ :: _ :: _ :: _ :: M, n', Nat.le_refl _, h', .inl ⟨rfl, ds ++ [z], _, hds2, hno2, hT2, rfl⟩⟩
      | false =>
        have hT2 : TabB T (anyB (DP P) (ds ++ [z])) := hT.congr fun a b _ _ => by rw [anyB_snoc, hbb]; simp
        repeat' (first | refine zP ?_ | refine zA ?_ | (refine zM ?_; intro _ _) | refine zX ?_ | (refine zC ?_; intro _ _ _ _) | (refine zS ?_; intro _ _) | (apply Ws <;> intro hg))
        exact Ends.rd rfl rfl rfl hH8 .here fun H' h' => ⟨_ :: _ :: _ :: _ :: _ :: _ :: M, n', Nat.le_refl _, h', .inl ⟨rfl, ds ++ [z], _, hds2, hno2, hT2, rfl⟩⟩
  · rintro _ H7 ⟨M7, T0, n7, hn7, hH7, ⟨ds, T, hds, hno, hT, rfl⟩ | ⟨z, u, hSz, hcb, ⟨ds, zs, hds, hno⟩, T, rfl⟩⟩
    · rw [List.append_nil] at hds
      simp only [List.cons_append] at hH7
      refine rangeEnd_of hH7 .here (by rw [← hRR]; simp) (by rw [← hRR]; rfl) fun H8 hH8 => ?_
      clear hH7 hH6
      have hnone : (allC (gD (DP P)) P.length).find? (closB (DP P)) = none := List.find?_eq_none.2 fun d hd => by rw [← hds] at hd; rw [hno d hd]; simp
      rw [hds] at hT
      generalize ({ R with state := .exhausted } : LoopE) = R2 at hH8
      obtain ⟨cws, hcS, hcl, hcrow⟩ := hR
      have hcS8 : Sl ((lp, Ch.loop R2) :: (df, .defd false) :: (b3, .row 48 0 0 [v]) :: (b2, .row 74 0 0 (bools T)) :: (b1, .row 58 0 0 [.nilIface]) :: (n0, .row 48 0 0 [v]) :: (M ++ T0)) 1 v cws := hcS.mono fun q hq => by simp [hq]
      clear hcS8
      have hH9 : hasH ((b2, .row 74 0 0 (bools T)) :: (b1, .row 58 0 0 [.nilIface]) :: (n0, .row 48 0 0 [v]) :: (df, .defd false) :: (M ++ T0)) n7 H8 := by
        refine (hH8.sub (M' := (df, .defd false) :: (b2, .row 74 0 0 (bools T)) :: (b1, .row 58 0 0 [.nilIface]) :: (n0, .row 48 0 0 [v]) :: (M ++ T0)) ?_).perm ?_
        · exact .cons _ (.cons_cons _ (.cons _ (List.Sublist.refl _)))
        · exact (List.perm_middle (l₁ := [_, _, _])).symm
      clear hH8
      have hcS9 : Sl ((b2, .row 74 0 0 (bools T)) :: (b1, .row 58 0 0 [.nilIface]) :: (n0, .row 48 0 0 [v]) :: (df, .defd false) :: (M ++ T0)) 1 v cws := hcS.mono fun q hq => by simp [hq]
      have hTl := hT.1
      repeat' (first | refine zP ?_ | refine zA ?_ | (refine zM ?_; intro _ _) | refine zX ?_ | (refine zC ?_; intro _ _ _ _) | (refine zS ?_; intro _ _) | (apply Ws <;> intro hg))
      rw [hcl]
      refine WR.mkS (by first | exact gN | exact gS rfl) rfl hH9 rfl rfl (by omega) rfl fun H10 hH10 => ?_
      replace hH10 : hasH ((n7, .row 3 0 0 (nodes (List.replicate P.length 0))) :: (b2, .row 74 0 0 (bools T)) :: (b1, .row 58 0 0 [.nilIface]) :: (n0, .row 48 0 0 [v]) :: (df, .defd false) :: (M ++ T0)) (n7 + 1) H10 := by
        rw [show nodes (List.replicate P.length 0) = List.replicate P.length (Value.int .i64 0) by simp [nodes]]; exact hH10
      clear hH9
      replace hcS9 := hcS9.cons (p := (n7, .row 3 0 0 (nodes (List.replicate P.length 0))))
      repeat' (first | refine zP ?_ | refine zA ?_ | (refine zM ?_; intro _ _) | refine zX ?_ | (refine zC ?_; intro _ _ _ _) | (refine zS ?_; intro _ _) | (apply Ws <;> intro hg))
      rw [hcl]
      clear hcS9
      refine WC.loopX [(1, _), (2, _), (3, _), (7, .slice (some ⟨n7, 0, some 0⟩) P.length (2 * P.length + 1)), (34, _)] (fun s : RK => [(35, .int .i64 (s.a : Int))]) [df] (fun s H' => s.a ≤ P.length ∧ RInv (DP P) P.length s.F s.a 0 ∧ hasH ((n7, .row 3 0 0 (nodes s.F)) :: (b2, .row 74 0 0 (bools T)) :: (b1, .row 58 0 0 [.nilIface]) :: (n0, .row 48 0 0 [v]) :: (df, .defd false) :: (M ++ T0)) (n7 + 1) H') (fun s => P.length - s.a) ⟨0, List.replicate P.length 0⟩ (by repeat' (first | exact .nil | refine .cons rfl ?_)) rfl
        ⟨Nat.zero_le _, ⟨by simp, fun i hi => by
          rw [getD_eq (by simpa using hi), List.getElem_replicate, if_neg (Nat.not_lt_zero _)]
          split <;> rfl⟩, hH10⟩ ?_
      clear hH10
      rintro ⟨a, F⟩ H11 ⟨ha, hI, hH11⟩
      simp only at ha hI hH11
      have hcS11 : Sl ((n7, .row 3 0 0 (nodes F)) :: (b2, .row 74 0 0 (bools T)) :: (b1, .row 58 0 0 [.nilIface]) :: (n0, .row 48 0 0 [v]) :: (df, .defd false) :: (M ++ T0)) 1 v cws := hcS.mono fun q hq => by simp [hq]
      dsimp only [List.cons_append, List.nil_append]
      repeat' (first | refine zP ?_ | refine zA ?_ | (refine zM ?_; intro _ _) | refine zX ?_ | (refine zC ?_; intro _ _ _ _) | (refine zS ?_; intro _ _) | (apply Ws <;> intro hg))
      refine WC.condP rfl (fun hlta => ?_) (fun hlta => ?_)
      · have ha' : a < P.length := by omega
        repeat' (first | refine zP ?_ | refine zA ?_ | (refine zM ?_; intro _ _) | refine zX ?_ | (refine zC ?_; intro _ _ _ _) | (refine zS ?_; intro _ _) | (apply Ws <;> intro hg))
        rw [hcl]
        clear hcS11
        refine WC.loopX [(1, _), (2, _), (3, _), (7, .slice (some ⟨n7, 0, some 0⟩) P.length (2 * P.length + 1)), (8, _), (34, _), (35, _), (39, _)] (fun s : RK => [(40, .int .i64 (s.a : Int))]) [df] (fun s H' => s.a ≤ P.length ∧ RInv (DP P) P.length s.F a s.a ∧ hasH ((n7, .row 3 0 0 (nodes s.F)) :: (b2, .row 74 0 0 (bools T)) :: (b1, .row 58 0 0 [.nilIface]) :: (n0, .row 48 0 0 [v]) :: (df, .defd false) :: (M ++ T0)) (n7 + 1) H') (fun s => P.length - s.a) ⟨0, F⟩ (by repeat' (first | exact .nil | refine .cons rfl ?_)) rfl ⟨Nat.zero_le _, hI, hH11⟩ ?_
        clear hH11 hI
        rintro ⟨k, F2⟩ H12 ⟨hk, hI, hH12⟩
        simp only at hk hI hH12
        have hFl := hI.1
        dsimp only [List.cons_append, List.nil_append]
        repeat' (first | refine zP ?_ | refine zA ?_ | (refine zM ?_; intro _ _) | refine zX ?_ | (refine zC ?_; intro _ _ _ _) | (refine zS ?_; intro _ _) | (apply Ws <;> intro hg))
        refine WC.condP rfl (fun hltk => ?_) (fun hltk => ?_)
        · have hk' : k < P.length := by omega
          have hTg : T.getD (a * 6 + k) false = BTb (DP P) P.length a k := hT.2 a k (by omega) (by omega)
          have hFa := hI.2 a ha'
          rw [if_neg (Nat.lt_irrefl _), if_pos rfl] at hFa
          have hcl2 := cntB_le (DP P) P.length a k
          repeat' (first | refine zP ?_ | refine zA ?_ | (refine zM ?_; intro _ _) | refine zX ?_ | (refine zC ?_; intro _ _ _ _) | (refine zS ?_; intro _ _) | (apply Ws <;> intro hg))
          rw [hTg]
          cases hbt : BTb (DP P) P.length a k with
          | true =>
            repeat' (first | refine zP ?_ | refine zA ?_ | (refine zM ?_; intro _ _) | refine zX ?_ | (refine zC ?_; intro _ _ _ _) | (refine zS ?_; intro _ _) | (apply Ws <;> intro hg))
            rename_i H13 hH13
            exact Ends.loop ⟨k + 1, F2.set a (F2.getD a 0 + 1)⟩ (by simp only; omega) (by repeat' (first | exact .nil | refine .cons rfl ?_)) rfl ⟨by simp only; omega, hI.step ha' hbt, hH13⟩
          | false =>
            repeat' (first | refine zP ?_ | refine zA ?_ | (refine zM ?_; intro _ _) | refine zX ?_ | (refine zC ?_; intro _ _ _ _) | (refine zS ?_; intro _ _) | (apply Ws <;> intro hg))
            exact Ends.loop ⟨k + 1, F2⟩ (by simp only; omega) (by repeat' (first | exact .nil | refine .cons rfl ?_)) rfl ⟨by simp only; omega, hI.skip hbt, hH12⟩
        · have hkl : k = P.length := by omega
          subst hkl
          repeat' (first | refine zP ?_ | refine zA ?_ | (refine zM ?_; intro _ _) | refine zX ?_ | (refine zC ?_; intro _ _ _ _) | (refine zS ?_; intro _ _) | (apply Ws <;> intro hg))
          exact Ends.loop ⟨a + 1, F2⟩ (by simp only; omega) (by repeat' (first | exact .nil | refine .cons rfl ?_)) rfl ⟨by simp only; omega, hI.next, hH12⟩
      · have hal : a = P.length := by omega
        subst hal
        have hF := hI.fin
        subst hF
        have hFl := hI.1
        have hi1 : one (.iface 81 (.slice (some ⟨n7, 0, some 0⟩) P.length (2 * P.length + 1))) = true := rfl
        repeat' (first | refine zP ?_ | refine zA ?_ | (refine zM ?_; intro _ _) | refine zX ?_ | (refine zC ?_; intro _ _ _ _) | (refine zS ?_; intro _ _) | (apply Ws <;> intro hg))
        rename_i H12 hH12
        refine Ends.retC1D rfl hH12 (M' := (n7, .row 3 0 0 (nodes (rkL (DP P) P.length))) :: (b1, .row 58 0 0 [.iface 81 (.slice (some ⟨n7, 0, some 0⟩) P.length (2 * P.length + 1))]) :: (df, .defd false) :: (M ++ T0)) (.cons_cons _ (.cons _ (.cons_cons _ (.cons _ (List.Sublist.refl _))))) (M0 := (n7, .row 3 0 0 (nodes (rkL (DP P) P.length))) :: (b1, .row 58 0 0 [.iface 81 (.slice (some ⟨n7, 0, some 0⟩) P.length (2 * P.length + 1))]) :: (M ++ T0)) (List.perm_middle (l₁ := [_, _])) fun H' h' =>
          ⟨h'.read (.tail _ (.head _)) (.row _ _ _ _) (Nat.zero_le _) rfl, n7 + 1, (n7, .row 3 0 0 (nodes (rkL (DP P) P.length))) :: (b1, .row 58 0 0 [.iface 81 (.slice (some ⟨n7, 0, some 0⟩) P.length (2 * P.length + 1))]) :: T0, _, by omega, h'.perm (by classical exact List.perm_iff_count.2 (fun a => by simp only [defds, List.map_cons, List.map_nil, List.count_append, List.count_cons, List.count_nil, List.cons_append, List.nil_append, List.append_nil]; omega)), rfl, .inr ⟨hnone, ?_, rfl⟩⟩
        exact .row (lo := 0) (cs := nodes (rkL (DP P) P.length)) (.head _) (.row _ _ _ _) (Nat.le_refl _) (by simp [rkL]) (by simp [List.take_of_length_le]) (by simp) (.inr ⟨P.length, rfl, Nat.le_refl _⟩)
    · simp only [List.cons_append] at hH7
      have hu1 := hSz.one_
      refine rangeEnd_of hH7 .here (by simp) rfl fun H8 hH8 => ?_
      have hsome : (allC (gD (DP P)) P.length).find? (closB (DP P)) = some z := List.find?_eq_some_iff_append.2 ⟨hcb, ds, zs, hds.symm, fun d hd => by rw [hno d hd]; rfl⟩
      repeat' (first | refine zP ?_ | refine zA ?_ | (refine zM ?_; intro _ _) | refine zX ?_ | (refine zC ?_; intro _ _ _ _) | (refine zS ?_; intro _ _) | (apply Ws <;> intro hg))
      refine Ends.retC1D rfl hH8 (M' := (df, .defd false) :: (b1, .row 58 0 0 [.iface 55 u]) :: (M ++ T0)) (.cons _ (.cons_cons _ (.cons _ (.cons _ (.cons_cons _ (.cons _ (List.Sublist.refl _))))))) (M0 := (b1, .row 58 0 0 [.iface 55 u]) :: (M ++ T0)) (List.Perm.refl _) fun H' h' =>
        ⟨h'.read (.head _) (.row _ _ _ _) (Nat.zero_le _) rfl, n7, (b1, .row 58 0 0 [.iface 55 u]) :: T0, u, by omega, h'.perm (by classical exact List.perm_iff_count.2 (fun a => by simp only [defds, List.map_cons, List.map_nil, List.count_append, List.count_cons, List.count_nil, List.cons_append, List.nil_append, List.append_nil]; omega)), hu1, .inl ⟨z, hsome, hSz.mono fun q hq => by simp [hq], rfl⟩⟩
end
end Go.Proofs.Ytdlfikobjnjmaaa.Tt

/- Taste, Ring, Ranks. -/
namespace Go.Abs
set_option linter.unusedSectionVars false
variable [Globs]
open Go
section
variable {C : CW} {L : Env} {H : Heap}
theorem OpV.tasT {a : TypeId} {z v : Value} {x : Operand} (hx : ev L x = some (.iface a v)) : OpV C (.tas a z x true) L H (.tuple #[v, .bool true]) H := fun t ht => by
  simp only [opA, ev_ok ht hx, oTas, Nat.beq_refl, cond_true]
theorem OpV.tasF {a b : TypeId} {z v : Value} {x : Operand} (hx : ev L x = some (.iface b v)) (hb : Nat.beq b a = false) : OpV C (.tas a z x true) L H (.tuple #[z, .bool false]) H := fun t ht => by
  simp only [opA, ev_ok ht hx, oTas, hb, cond_false, cond_true]
end
end Go.Abs
namespace Go.Proofs.Ytdlfikobjnjmaaa.Tt
open Go Go.Abs Go.Mth
set_option linter.unusedVariables false
set_option linter.unusedSimpArgs false
def firstRing (P : List (List Int)) : Option (List Nat) := (allC (gD (DP P)) P.length).find? (closB (DP P))
def tasteB (P : List (List Int)) : Bool := (firstRing P).isNone
theorem tasteB_iff {P : List (List Int)} : tasteB P = true ↔ ¬ ringed (DP P) P.length := by
  unfold tasteB
  rw [ringed_iff, Option.isNone_iff_eq_none]
  constructor
  · rintro h ⟨l, h1, h2⟩
    rw [find_none h l h1] at h2; cases h2
  · intro h
    cases hf : firstRing P with
    | none => rfl
    | some z => exact absurd ⟨z, (find_least hf).1⟩ h
theorem firstRing_none {P : List (List Int)} (h : tasteB P = true) : firstRing P = none := Option.isNone_iff_eq_none.1 h
theorem firstRing_least {P : List (List Int)} {z : List Nat} (h : firstRing P = some z) : LeastP (fun m => Chain (gD (DP P)) P.length m ∧ closB (DP P) m = true) z := find_least h
def LenS (S : List Sal) : Prop := S.length ≤ 1000 ∧ ∀ i, i < S.length → (S.getD i noSal).1.length ≤ 1000 ∧ (S.getD i noSal).2.length ≤ 1000
theorem OKS.lens {g : Nat} {S : List Sal} (h : OKS g S) : LenS S := by
  have := h.len
  have h3 := h.g3
  exact ⟨by omega, fun i hi => by rw [h.lp i hi, h.lt i hi]; omega⟩
theorem errS_range (g : Int) (S : List Sal) : 0 ≤ errS g S ∧ errS g S ≤ 5 := by
  have hs : ∀ s, 0 ≤ saleE g s ∧ saleE g s ≤ 5 := fun s => by unfold saleE; split <;> (try split) <;> omega
  have hf : ∀ m, 0 ≤ firstE (fun i => saleE g (S.getD i noSal)) m ∧ firstE (fun i => saleE g (S.getD i noSal)) m ≤ 5 := fun m => by
    induction m with
    | zero => simp [firstE]
    | succ m ih =>
      simp only [firstE]
      split
      · exact hs _
      · exact ih
  unfold errS
  split
  · omega
  · split
    · omega
    · exact hf _
attribute [local irreducible] gOK WS WC WR WD Ends FS YS OpV seqK blockK loopK midK retK rdK asgK rangeEnd sat Cell
section
variable {M : HL} {n0 : Nat} {H : Heap} {v w : Value}
theorem oneTaste_fs (hH : hasH M n0 H) {P : List (List Int)} (hP : SqP P) (hR : RowsI M v P) :
    FS C 22 [v] H (fun e H' => ∃ n', n0 ≤ n' ∧ hasH M n' H' ∧ e = .bool (tasteB P)) := by
  refine FS.intro (pf := pf22) rfl rfl rfl ?_
  repeat' (first | refine zP ?_ | refine zA ?_ | (refine zM ?_; intro _ _) | refine zX ?_ | (refine zC ?_; intro _ _ _ _) | (refine zS ?_; intro _ _) | (apply Ws <;> intro hg))
  refine WR.call (by first | exact gN | exact gS rfl) rfl rfl (judge_fs hH hP hR) ?_
  rintro _ H2 ⟨n2, M2, u, hn2, hH2, hu, ⟨z, hf, hS, rfl⟩ | ⟨hf, hS, rfl⟩⟩
  · refine WR.op (by first | exact gN | exact gS rfl) rfl (OpV.tasF rfl rfl) ?_
    repeat' (first | refine zP ?_ | refine zA ?_ | (refine zM ?_; intro _ _) | refine zX ?_ | (refine zC ?_; intro _ _ _ _) | (refine zS ?_; intro _ _) | (apply Ws <;> intro hg))
    refine Ends.ret1 rfl ⟨n2, hn2, hH2.sub (List.sublist_append_right _ _), ?_⟩
    rw [tasteB, firstRing, hf]; rfl
  · refine WR.op (by first | exact gN | exact gS rfl) rfl (OpV.tasT rfl) ?_
    repeat' (first | refine zP ?_ | refine zA ?_ | (refine zM ?_; intro _ _) | refine zX ?_ | (refine zC ?_; intro _ _ _ _) | (refine zS ?_; intro _ _) | (apply Ws <;> intro hg))
    refine Ends.ret1 rfl ⟨n2, hn2, hH2.sub (List.sublist_append_right _ _), ?_⟩
    rw [tasteB, firstRing, hf]; rfl
theorem reckon_fs (hH : hasH M n0 H) {S : List Sal} (hS : SalesI M v S) (hl : LenS S) (g : Int) :
    FS C 16 [.int .i64 g, v] H (fun e H' => ∃ n' M2 u, n0 ≤ n' ∧ hasH (M2 ++ M) n' H' ∧ one u = true ∧ e = .tuple #[u, .int .i64 (errS g S)] ∧ ((errS g S ≠ 0 ∧ u = .slice none 0 0) ∨ (errS g S = 0 ∧ (∃ k : Nat, g = k ∧ OKS k S) ∧ SqP (matS S) ∧ RowsI (M2 ++ M) u (matS S)))) := by
  have hv := hS.one_
  have hr := errS_range g S
  refine FS.intro (pf := pf16) rfl rfl rfl ?_
  repeat' (first | refine zP ?_ | refine zA ?_ | (refine zM ?_; intro _ _) | refine zX ?_ | (refine zC ?_; intro _ _ _ _) | (refine zS ?_; intro _ _) | (apply Ws <;> intro hg))
  refine WR.call (by first | exact gN | exact gS rfl) rfl rfl (Check_fs hH hS hl.1 hl.2 g) ?_
  rintro _ H2 ⟨n2, hn2, hH2, rfl⟩
  clear hH
  repeat' (first | refine zP ?_ | refine zA ?_ | (refine zM ?_; intro _ _) | refine zX ?_ | (refine zC ?_; intro _ _ _ _) | (refine zS ?_; intro _ _) | (apply Ws <;> intro hg))
  refine WC.condP rfl (fun he => ?_) (fun he => ?_)
  · repeat' (first | refine zP ?_ | refine zA ?_ | (refine zM ?_; intro _ _) | refine zX ?_ | (refine zC ?_; intro _ _ _ _) | (refine zS ?_; intro _ _) | (apply Ws <;> intro hg))
    exact Ends.ret2 rfl rfl ⟨n2, [], _, hn2, hH2, rfl, rfl, .inl ⟨he, rfl⟩⟩
  · have h0 : errS g S = 0 := Decidable.not_not.1 he
    obtain ⟨k, rfl, hk⟩ := errS_zero.1 h0
    rw [h0]
    repeat' (first | refine zP ?_ | refine zA ?_ | (refine zM ?_; intro _ _) | refine zX ?_ | (refine zC ?_; intro _ _ _ _) | (refine zS ?_; intro _ _) | (apply Ws <;> intro hg))
    refine WR.call (by first | exact gN | exact gS rfl) rfl rfl (costsOf_fs hH2 hk hS) ?_
    rintro u H3 ⟨n3, M3, hn3, hH3, hRu⟩
    have hu := hRu.one_
    repeat' (first | refine zP ?_ | refine zA ?_ | (refine zM ?_; intro _ _) | refine zX ?_ | (refine zC ?_; intro _ _ _ _) | (refine zS ?_; intro _ _) | (apply Ws <;> intro hg))
    exact Ends.ret2 rfl rfl ⟨n3, M3, u, by omega, hH3, hu, rfl, .inr ⟨rfl, ⟨k, rfl, hk⟩, hk.sq, hRu⟩⟩
theorem Taste_fs (hH : hasH M n0 H) {S : List Sal} (hS : SalesI M v S) (hl : LenS S) (g : Int) :
    FS C 13 [.int .i64 g, v] H (fun e H' => ∃ n', n0 ≤ n' ∧ hasH M n' H' ∧ e = .tuple #[.bool (decide (errS g S = 0) && tasteB (matS S)), .int .i64 (errS g S)]) := by
  have hv := hS.one_
  have hr := errS_range g S
  refine FS.intro (pf := pf13) rfl rfl rfl ?_
  repeat' (first | refine zP ?_ | refine zA ?_ | (refine zM ?_; intro _ _) | refine zX ?_ | (refine zC ?_; intro _ _ _ _) | (refine zS ?_; intro _ _) | (apply Ws <;> intro hg))
  refine WR.call (by first | exact gN | exact gS rfl) rfl rfl (reckon_fs hH hS hl g) ?_
  rintro _ H2 ⟨n2, M2, u, hn2, hH2, hu, rfl, ⟨he, rfl⟩ | ⟨h0, ⟨k, rfl, hk⟩, hP, hR⟩⟩
  · rw [decide_eq_false he]
    repeat' (first | refine zP ?_ | refine zA ?_ | (refine zM ?_; intro _ _) | refine zX ?_ | (refine zC ?_; intro _ _ _ _) | (refine zS ?_; intro _ _) | (apply Ws <;> intro hg))
    refine WC.condP rfl (fun he2 => ?_) (fun he2 => ?_)
    · repeat' (first | refine zP ?_ | refine zA ?_ | (refine zM ?_; intro _ _) | refine zX ?_ | (refine zC ?_; intro _ _ _ _) | (refine zS ?_; intro _ _) | (apply Ws <;> intro hg))
      exact Ends.ret2 rfl rfl ⟨n2, hn2, hH2.sub (List.sublist_append_right _ _), rfl⟩
    · exact absurd he he2
  · rw [h0]
    repeat' (first | refine zP ?_ | refine zA ?_ | (refine zM ?_; intro _ _) | refine zX ?_ | (refine zC ?_; intro _ _ _ _) | (refine zS ?_; intro _ _) | refine zO ?_ | (apply Ws <;> intro hg))
    refine WR.call (by first | exact gN | exact gS rfl) rfl rfl (oneTaste_fs hH2 hP hR) ?_
    rintro _ H3 ⟨n3, hn3, hH3, rfl⟩
    repeat' (first | refine zP ?_ | refine zA ?_ | (refine zM ?_; intro _ _) | refine zX ?_ | (refine zC ?_; intro _ _ _ _) | (refine zS ?_; intro _ _) | (apply Ws <;> intro hg))
    exact Ends.ret2 rfl rfl ⟨n3, by omega, hH3.sub (List.sublist_append_right _ _), by rw [decide_eq_true rfl, Bool.true_and]⟩
def RingOut (M : HL) (g : Int) (S : List Sal) (e : Value) : Prop := ∃ u, e = .tuple #[u, .int .i64 (if errS g S ≠ 0 then errS g S else if tasteB (matS S) = true then 13 else 0)] ∧ one u = true ∧
  ((errS g S = 0 ∧ ∃ z, firstRing (matS S) = some z ∧ Sl M 1 u (nodes z)) ∨ ((errS g S ≠ 0 ∨ tasteB (matS S) = true) ∧ u = .slice none 0 0))
theorem Ring_fs (hH : hasH M n0 H) {S : List Sal} (hS : SalesI M v S) (hl : LenS S) (g : Int) :
    FS C 11 [.int .i64 g, v] H (fun e H' => ∃ n' M2, n0 ≤ n' ∧ hasH (M2 ++ M) n' H' ∧ RingOut (M2 ++ M) g S e) := by
  have hv := hS.one_
  have hr := errS_range g S
  refine FS.intro (pf := pf11) rfl rfl rfl ?_
  repeat' (first | refine zP ?_ | refine zA ?_ | (refine zM ?_; intro _ _) | refine zX ?_ | (refine zC ?_; intro _ _ _ _) | (refine zS ?_; intro _ _) | (apply Ws <;> intro hg))
  refine WR.call (by first | exact gN | exact gS rfl) rfl rfl (reckon_fs hH hS hl g) ?_
  rintro _ H2 ⟨n2, M2, u, hn2, hH2, hu, rfl, ⟨he, rfl⟩ | ⟨h0, ⟨k, rfl, hk⟩, hP, hR⟩⟩
  · repeat' (first | refine zP ?_ | refine zA ?_ | (refine zM ?_; intro _ _) | refine zX ?_ | (refine zC ?_; intro _ _ _ _) | (refine zS ?_; intro _ _) | (apply Ws <;> intro hg))
    refine WC.condP rfl (fun he2 => ?_) (fun he2 => ?_)
    · repeat' (first | refine zP ?_ | refine zA ?_ | (refine zM ?_; intro _ _) | refine zX ?_ | (refine zC ?_; intro _ _ _ _) | (refine zS ?_; intro _ _) | (apply Ws <;> intro hg))
      exact Ends.ret2 rfl rfl ⟨n2, M2, hn2, hH2, _, by rw [if_pos he], rfl, .inr ⟨.inl he, rfl⟩⟩
    · exact absurd he he2
  · rw [h0]
    repeat' (first | refine zP ?_ | refine zA ?_ | (refine zM ?_; intro _ _) | refine zX ?_ | (refine zC ?_; intro _ _ _ _) | (refine zS ?_; intro _ _) | refine zO ?_ | (apply Ws <;> intro hg))
    refine WR.call (by first | exact gN | exact gS rfl) rfl rfl (judge_fs hH2 hP hR) ?_
    rintro _ H3 ⟨n3, M3, u3, hn3, hH3, hu3, ⟨z, hf, hSz, rfl⟩ | ⟨hf, hSz, rfl⟩⟩
    · have hfr : firstRing (matS S) = some z := hf
      have htb : tasteB (matS S) = false := by rw [tasteB, hfr]; rfl
      refine WR.op (by first | exact gN | exact gS rfl) rfl (OpV.tasT rfl) ?_
      repeat' (first | refine zP ?_ | refine zA ?_ | (refine zM ?_; intro _ _) | refine zX ?_ | (refine zC ?_; intro _ _ _ _) | (refine zS ?_; intro _ _) | (apply Ws <;> intro hg))
      exact Ends.ret2 rfl rfl ⟨n3, M3 ++ M2, by omega, by simpa using hH3, u3, by rw [if_neg (not_not_intro h0), htb]; rfl, hu3, .inl ⟨h0, z, hfr, by simpa using hSz⟩⟩
    · have hfr : firstRing (matS S) = none := hf
      have htb : tasteB (matS S) = true := by rw [tasteB, hfr]; rfl
      refine WR.op (by first | exact gN | exact gS rfl) rfl (OpV.tasF rfl rfl) ?_
      repeat' (first | refine zP ?_ | refine zA ?_ | (refine zM ?_; intro _ _) | refine zX ?_ | (refine zC ?_; intro _ _ _ _) | (refine zS ?_; intro _ _) | (apply Ws <;> intro hg))
      exact Ends.ret2 rfl rfl ⟨n3, M3 ++ M2, by omega, by simpa using hH3, _, by rw [if_neg (not_not_intro h0), if_pos htb], rfl, .inr ⟨.inr htb, rfl⟩⟩
def RanksOut (M : HL) (g : Int) (S : List Sal) (e : Value) : Prop := ∃ u, e = .tuple #[u, .int .i64 (if errS g S ≠ 0 then errS g S else if tasteB (matS S) = true then 0 else 13)] ∧ one u = true ∧
  ((errS g S = 0 ∧ tasteB (matS S) = true ∧ Sl M 1 u (nodes (rkL (DP (matS S)) (matS S).length))) ∨ ((errS g S ≠ 0 ∨ tasteB (matS S) = false) ∧ u = .slice none 0 0))
end
end Go.Proofs.Ytdlfikobjnjmaaa.Tt

/- A shop of the law. -/
namespace Go.Abs
set_option linter.unusedSectionVars false
variable [Globs]
open Go
section
variable {C : CW} {L : Env} {H : Heap}
theorem u8_half : ∀ a : Fin 256, IntKind.u8.wrap (((a.val : Nat) : Int).tdiv 2) = ((a.val / 2 : Nat) : Int) := by decide +kernel
theorem OpV.half {x y : Operand} {a : Nat} (hx : ev L x = some (.int .u8 (a : Int))) (hy : ev L y = some (.int .u8 2)) (ha : a ≤ 255) : OpV C (.ibin .quo .u8 x y) L H (.int .u8 ((a / 2 : Nat) : Int)) H := by
  refine OpV.other hx hy rfl ?_ rfl
  have := u8_half ⟨a, by omega⟩
  simp only at this
  simp only [binOp, ne_eq, not_true_eq_false, if_false, Op.intDiv]
  rw [if_neg (by decide), this]
  rfl
end
end Go.Abs
namespace Go.Proofs.Ytdlfikobjnjmaaa.Tt
open Go Go.Abs Go.Mth
set_option linter.unusedVariables false
set_option linter.unusedSimpArgs false
theorem u8k : C.c.P.underlying 5 = some (.int .u8) := by kernel_rfl
theorem i64k : C.c.P.underlying 3 = some (.int .i64) := by kernel_rfl
def OKE (g : Nat) (s : Sal) : Prop := s.1.length = g ∧ s.2.length = g ∧ (∀ x ∈ s.1, 1 ≤ x ∧ x ≤ 4) ∧ ∀ x ∈ s.2, 0 ≤ x ∧ x ≤ 4
theorem OKS.of {g : Nat} {S : List Sal} (h1 : 1 ≤ g) (h3 : g ≤ 3) (hl : S.length ≤ 6) (h : ∀ s ∈ S, OKE g s) : OKS g S := by
  have hm : ∀ i, i < S.length → OKE g (S.getD i noSal) := fun i hi => h _ (getD_mem hi)
  exact ⟨h1, h3, hl, fun i hi => (hm i hi).1, fun i hi => (hm i hi).2.1, fun i hi x hx => by have := (hm i hi).2.2.1 x hx; omega, fun i hi x hx => by have := (hm i hi).2.2.2 x hx; omega⟩
def SalR (M : HL) (ws : List (Value × Value)) (S : List Sal) : Prop := ws.length = S.length ∧
  ∀ i, i < S.length → Sl M 1 (ws.getD i noVal).1 (ints (S.getD i noSal).1) ∧ Sl M 1 (ws.getD i noVal).2 (ints (S.getD i noSal).2)
theorem SalR.mono {M M' : HL} {ws : List (Value × Value)} {S : List Sal} (h : SalR M ws S) (k : ∀ q ∈ M, q ∈ M') : SalR M' ws S := ⟨h.1, fun i hi => ⟨(h.2 i hi).1.mono k, (h.2 i hi).2.mono k⟩⟩
theorem SalR.nil (M : HL) : SalR M [] [] := ⟨rfl, fun i h => absurd h (Nat.not_lt_zero _)⟩
theorem SalR.snoc {M : HL} {ws : List (Value × Value)} {S : List Sal} {w : Value × Value} {s : Sal} (h : SalR M ws S) (h1 : Sl M 1 w.1 (ints s.1)) (h2 : Sl M 1 w.2 (ints s.2)) : SalR M (ws ++ [w]) (S ++ [s]) := by
  refine ⟨by simp [h.1], fun i hi => ?_⟩
  rw [List.length_append, List.length_singleton] at hi
  by_cases e : i < S.length
  · rw [getD_app_l (by rw [h.1]; exact e), getD_app_l e]; exact h.2 i e
  · have : i = S.length := by omega
    subst this
    rw [getD_snoc, show S.length = ws.length from h.1.symm, getD_snoc]; exact ⟨h1, h2⟩
theorem SalR.sales {M : HL} {v : Value} {ws : List (Value × Value)} {S : List Sal} (hS : Sl M 2 v (cellsF pairV ws)) (h : SalR M ws S) : SalesI M v S := ⟨ws, hS, h.1, h.2⟩
theorem fill2 {a b : Value} (ha : one a = true) (hb : one b = true) : Instr.fill (fun i => [(0, 1), (1, 1)][i]?) [Value.slice none 0 0, Value.slice none 0 0].toArray [(0, a), (1, b)] = some [a, b].toArray := by
  cases a <;> first | (cases ha; done) | (cases b <;> first | rfl | (cases hb; done))
theorem cells_snoc (ws : List (Value × Value)) (a b : Value) : cellsF pairV ws ++ [a, b] = cellsF pairV (ws ++ [(a, b)]) := by
  simp [cellsF, pairV]
structure MO where
  i : Nat
  v : Value
  ws : List (Value × Value)
  S : List Sal
  Mo : HL
  Mi : HL
  n : Nat
structure MK where
  k : Nat
  vp : Value
  vt : Value
  p : List Nat
  t : List Nat
  Mp : HL
  Mt : HL
  n : Nat
structure MX where
  x : Nat
  vt : Value
  t : List Nat
  best : Int
  Mt : HL
  n : Nat
structure MQ where
  k : Nat
  c : Int
  w : Int
theorem pow7 {k : Nat} (h : k ≤ 3) : (7 : Int) ^ k ≤ 343 := by
  rcases (show k = 0 ∨ k = 1 ∨ k = 2 ∨ k = 3 by omega) with rfl | rfl | rfl | rfl <;> decide
theorem nodes_ints (l : List Nat) : ints (IL l) = nodes l := (nodes_IL l).symm
end Go.Proofs.Ytdlfikobjnjmaaa.Tt
