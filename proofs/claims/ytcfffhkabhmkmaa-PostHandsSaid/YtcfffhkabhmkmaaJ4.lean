/- Texts of the law, joined. -/
import Derived.Test.YtcfffhkabhmkmaaJ3
import Derived.Test.YtcfffhkabhmkmaaSymW
/- All lists of places, one after the other. -/
namespace Go.Proofs.Ytcfffhkabhmkmaa.Ps
open Go Go.Abs Go.Mth
set_option linter.unusedVariables false
set_option linter.unusedSimpArgs false
attribute [local irreducible] gOK WS WC WR WD Ends FS YS OpV seqK blockK loopK midK retK rdK asgK rangeEnd sat Cell
section
variable {M : HL} {n0 : Nat} {H : Heap} {v w : Value}
end
end Go.Proofs.Ytcfffhkabhmkmaa.Ps

/- Lists that are good, one after the other. -/
namespace Go.Proofs.Ytcfffhkabhmkmaa.Ps
open Go Go.Abs Go.Mth
set_option linter.unusedVariables false
set_option linter.unusedSimpArgs false
def GoodF (G : HL) (n gf : Nat) (gv : List Value) (good : List Nat → Bool) : Prop := ∀ {T : HL} {k : Nat} {H : Heap} {u : Value} {z : List Nat}, hasH T k H → (∀ p ∈ G, p ∈ T) → KL T u z → AscN n z → FS C gf (gv ++ [u] ++ []) H (fun e H' => e = .bool (good z) ∧ H' = H)
attribute [local irreducible] gOK WS WC WR WD Ends FS YS OpV seqK blockK loopK midK retK rdK asgK rangeEnd sat Cell
section
variable {M : HL} {n0 : Nat} {H : Heap} {v w : Value}
end
end Go.Proofs.Ytcfffhkabhmkmaa.Ps

/- The good lists that cost the least. -/
namespace Go.Proofs.Ytcfffhkabhmkmaa.Ps
open Go Go.Abs Go.Mth
set_option linter.unusedVariables false
set_option linter.unusedSimpArgs false
def RowsB (M : HL) (ws : List Value) (zs : List (List Nat)) : Prop := ws.length = zs.length ∧ ∀ i, i < zs.length → Sl M 1 (ws.getD i undef) (nodes (zs.getD i []))
theorem RowsB.mono {M M' : HL} {ws : List Value} {zs : List (List Nat)} (h : RowsB M ws zs) (k : ∀ p ∈ M, p ∈ M') : RowsB M' ws zs := ⟨h.1, fun i hi => (h.2 i hi).mono k⟩
theorem RowsB.nil (M : HL) : RowsB M [] [] := ⟨rfl, fun i h => absurd h (Nat.not_lt_zero _)⟩
theorem GoodF.mono {B B' : HL} {n gf : Nat} {gv : List Value} {good : List Nat → Bool} (h : GoodF B n gf gv good) (k : ∀ p ∈ B, p ∈ B') : GoodF B' n gf gv good := fun h1 h2 h3 h4 => h h1 (fun p hp => h2 p (k p hp)) h3 h4
attribute [local irreducible] gOK WS WC WR WD Ends FS YS OpV seqK blockK loopK midK retK rdK asgK rangeEnd sat Cell
section
variable {M : HL} {n0 : Nat} {H : Heap} {v w : Value}
end
end Go.Proofs.Ytcfffhkabhmkmaa.Ps

/- Ratings; the fewest posts, the most places that are apart, the ways. -/
namespace Go.Proofs.Ytcfffhkabhmkmaa.Ps
open Go Go.Abs Go.Mth
set_option linter.unusedVariables false
set_option linter.unusedSimpArgs false
theorem HndV.mono {M M' : HL} {xs : List Int} {v : Value} (h : HndV M xs v) (k : ∀ p ∈ M, p ∈ M') : HndV M' xs v := Sl.mono h k
structure KC where
  k : Nat
  n : Nat
attribute [local irreducible] gOK WS WC WR WD Ends FS YS OpV seqK blockK loopK midK retK rdK asgK rangeEnd sat Cell
section
variable {M : HL} {n0 : Nat} {H : Heap} {v w : Value}
theorem hnd_row {b : Nat} {xs : List Int} {T : HL} : HndV ((b, .row 49 0 0 (numsK .u16 (hsL xs))) :: T) xs (.slice (some ⟨b, 0, some 0⟩) xs.length (2 * xs.length + 1)) := by
  refine .row (.head _) (.row _ _ _ _) (Nat.le_refl _) (by simp [hsL_len]) ?_ (by simp [hsL_len]) (.inr ⟨_, rfl, Nat.le_refl _⟩)
  rw [Nat.sub_self, List.drop_zero, List.take_of_length_le (by simp [hsL_len])]
end
end Go.Proofs.Ytcfffhkabhmkmaa.Ps

/- Places in so many lists; what the package's other functions return. -/
namespace Go.Proofs.Ytcfffhkabhmkmaa.Ps
open Go Go.Abs Go.Mth
set_option linter.unusedVariables false
set_option linter.unusedSimpArgs false
def plcL (s k : Nat) : List Nat := (List.range k).filter s.testBit
theorem plcL_succ (s k : Nat) : plcL s (k + 1) = if s.testBit k = true then plcL s k ++ [k] else plcL s k := by
  unfold plcL
  rw [List.range_succ, List.filter_append]
  by_cases h : s.testBit k = true
  · rw [if_pos h, List.filter_cons_of_pos h]; simp
  · rw [if_neg h, List.filter_cons_of_neg h]; simp
theorem plcL_len (s k : Nat) : (plcL s k).length ≤ k := by
  have := List.length_filter_le s.testBit (List.range k)
  simpa [plcL] using this
theorem plcL_hm {xs : List Int} {i : Nat} (h : xs.length ≤ 10) : plcL (hm xs i) 10 = hndL xs i := by
  have e1 : ∀ j, (hm xs i).testBit j = (decide (j < xs.length) && adj xs i j) := fun j => by
    rw [Bool.eq_iff_iff, hm_bit, Bool.and_eq_true, decide_eq_true_eq]
  unfold plcL hndL
  obtain ⟨d, hd⟩ : ∃ d, 10 = xs.length + d := ⟨10 - xs.length, by omega⟩
  rw [hd, List.range_add, List.filter_append]
  have h1 : (List.range xs.length).filter (hm xs i).testBit = (List.range xs.length).filter (adj xs i) := List.filter_congr fun j hj => by
    rw [e1, decide_eq_true (List.mem_range.1 hj), Bool.true_and]
  have h2 : ((List.range d).map (xs.length + ·)).filter (hm xs i).testBit = [] := List.filter_eq_nil_iff.2 fun j hj => by
    obtain ⟨q, _, rfl⟩ := List.mem_map.1 hj
    rw [e1, decide_eq_false (by omega)]; simp
  rw [h1, h2, List.append_nil]
theorem nodes_snoc (l : List Nat) (x : Nat) : nodes (l ++ [x]) = nodes l ++ [.int .i64 (x : Int)] := by simp [nodes]
structure KO where
  k : Nat
  v : Value
  Mx : HL
  n : Nat
attribute [local irreducible] gOK WS WC WR WD Ends FS YS OpV seqK blockK loopK midK retK rdK asgK rangeEnd sat Cell
section
variable {M : HL} {n0 : Nat} {H : Heap} {v w : Value}
end
end Go.Proofs.Ytcfffhkabhmkmaa.Ps

/- Count, Cheapest, Guards, Proves, Hand. -/
namespace Go.Proofs.Ytcfffhkabhmkmaa.Ps
open Go Go.Abs Go.Mth
set_option linter.unusedVariables false
set_option linter.unusedSimpArgs false
def errG (xs o : List Int) : Int := if errL xs o ≠ 0 then errL xs o else if grd xs (o.map Int.toNat) = true then 0 else 14
def errA (xs o : List Int) : Int := if errL xs o ≠ 0 then errL xs o else if apt xs (o.map Int.toNat) = true then 0 else 14
theorem toNat_IL (l : List Nat) : (IL l).map Int.toNat = l := by
  refine List.ext_getElem (by simp [IL]) fun i h1 h2 => by simp [IL]
def errH (xs : List Int) (p : Int) : Int := if errS xs ≠ 0 then errS xs else if 0 ≤ p ∧ p < xs.length then 0 else 2
attribute [local irreducible] gOK WS WC WR WD Ends FS YS OpV seqK blockK loopK midK retK rdK asgK rangeEnd sat Cell
section
variable {M : HL} {n0 : Nat} {H : Heap} {v w : Value}
theorem Guards_fs (hH : hasH M n0 H) {xs o : List Int} (hS : Sl M 1 v (ints xs)) (hl : xs.length ≤ 100000) (hU : Sl M 1 w (ints o)) (ho : o.length ≤ 100000) :
    FS C 14 [v, w] H (fun e H' => e = .int .i64 (errG xs o) ∧ ∃ n', n0 ≤ n' ∧ hasH M n' H') := by
  refine FS.intro (pf := pf14) rfl rfl rfl ?_
  repeat' (first | refine zP ?_ | refine zA ?_ | (refine zM ?_; intro _ _) | refine zX ?_ | (refine zC ?_; intro _ _ _ _) | (refine zS ?_; intro _ _) | (apply Ws <;> intro hg))
  refine WR.call (by first | exact gN | exact gS rfl) rfl rfl (checkPlaces_fs hH hS hl hU ho) ?_
  rintro _ H1 ⟨rfl, rfl⟩
  repeat' (first | refine zP ?_ | refine zA ?_ | (refine zM ?_; intro _ _) | refine zX ?_ | (refine zC ?_; intro _ _ _ _) | (refine zS ?_; intro _ _) | (apply Ws <;> intro hg))
  refine WC.condP rfl (fun h0 => ?_) (fun h0 => ?_)
  · repeat' (first | refine zP ?_ | refine zA ?_ | (refine zM ?_; intro _ _) | refine zX ?_ | (refine zC ?_; intro _ _ _ _) | (refine zS ?_; intro _ _) | (apply Ws <;> intro hg))
    exact Ends.ret1 rfl ⟨by unfold errG; rw [if_pos h0], n0, Nat.le_refl _, hH⟩
  · have h00 : errL xs o = 0 := by omega
    obtain ⟨hx, l, rfl, hla⟩ := errL_zero.1 h00
    have h10 := hx.most
    have hll := hla.len
    have hE : errG xs (IL l) = if grd xs l = true then 0 else 14 := by unfold errG; rw [if_neg h0, toNat_IL]
    repeat' (first | refine zP ?_ | refine zA ?_ | (refine zM ?_; intro _ _) | refine zX ?_ | (refine zC ?_; intro _ _ _ _) | (refine zS ?_; intro _ _) | (apply Ws <;> intro hg))
    refine WR.call (by first | exact gN | exact gS rfl) rfl rfl (handsOf_fs hH hS hx) ?_
    rintro _ H2 ⟨rfl, hH2⟩
    rw [← nodes_IL] at hU
    repeat' (first | refine zP ?_ | refine zA ?_ | (refine zM ?_; intro _ _) | refine zX ?_ | (refine zC ?_; intro _ _ _ _) | (refine zS ?_; intro _ _) | (apply Ws <;> intro hg))
    refine WR.call (by first | exact gN | exact gS rfl) rfl rfl (guarded_fs hH2 hx hnd_row hU.cons hla.lt (by omega)) ?_
    rintro _ _ ⟨rfl, rfl⟩
    cases hgr : grd xs l with
    | true =>
      rw [if_pos hgr] at hE
      repeat' (first | refine zP ?_ | refine zA ?_ | (refine zM ?_; intro _ _) | refine zX ?_ | (refine zC ?_; intro _ _ _ _) | (refine zS ?_; intro _ _) | refine zO ?_ | (apply Ws <;> intro hg))
      exact Ends.ret1 rfl ⟨by rw [hE], n0 + 1, by omega, hH2.tail⟩
    | false =>
      rw [if_neg (by rw [hgr]; decide)] at hE
      repeat' (first | refine zP ?_ | refine zA ?_ | (refine zM ?_; intro _ _) | refine zX ?_ | (refine zC ?_; intro _ _ _ _) | (refine zS ?_; intro _ _) | refine zO ?_ | (apply Ws <;> intro hg))
      exact Ends.ret1 rfl ⟨by rw [hE], n0 + 1, by omega, hH2.tail⟩
theorem Proves_fs (hH : hasH M n0 H) {xs o : List Int} (hS : Sl M 1 v (ints xs)) (hl : xs.length ≤ 100000) (hU : Sl M 1 w (ints o)) (ho : o.length ≤ 100000) :
    FS C 16 [v, w] H (fun e H' => e = .int .i64 (errA xs o) ∧ ∃ n', n0 ≤ n' ∧ hasH M n' H') := by
  refine FS.intro (pf := pf16) rfl rfl rfl ?_
  repeat' (first | refine zP ?_ | refine zA ?_ | (refine zM ?_; intro _ _) | refine zX ?_ | (refine zC ?_; intro _ _ _ _) | (refine zS ?_; intro _ _) | (apply Ws <;> intro hg))
  refine WR.call (by first | exact gN | exact gS rfl) rfl rfl (checkPlaces_fs hH hS hl hU ho) ?_
  rintro _ H1 ⟨rfl, rfl⟩
  repeat' (first | refine zP ?_ | refine zA ?_ | (refine zM ?_; intro _ _) | refine zX ?_ | (refine zC ?_; intro _ _ _ _) | (refine zS ?_; intro _ _) | (apply Ws <;> intro hg))
  refine WC.condP rfl (fun h0 => ?_) (fun h0 => ?_)
  · repeat' (first | refine zP ?_ | refine zA ?_ | (refine zM ?_; intro _ _) | refine zX ?_ | (refine zC ?_; intro _ _ _ _) | (refine zS ?_; intro _ _) | (apply Ws <;> intro hg))
    exact Ends.ret1 rfl ⟨by unfold errA; rw [if_pos h0], n0, Nat.le_refl _, hH⟩
  · have h00 : errL xs o = 0 := by omega
    obtain ⟨hx, l, rfl, hla⟩ := errL_zero.1 h00
    have h10 := hx.most
    have hll := hla.len
    have hE : errA xs (IL l) = if apt xs l = true then 0 else 14 := by unfold errA; rw [if_neg h0, toNat_IL]
    repeat' (first | refine zP ?_ | refine zA ?_ | (refine zM ?_; intro _ _) | refine zX ?_ | (refine zC ?_; intro _ _ _ _) | (refine zS ?_; intro _ _) | (apply Ws <;> intro hg))
    refine WR.call (by first | exact gN | exact gS rfl) rfl rfl (handsOf_fs hH hS hx) ?_
    rintro _ H2 ⟨rfl, hH2⟩
    rw [← nodes_IL] at hU
    repeat' (first | refine zP ?_ | refine zA ?_ | (refine zM ?_; intro _ _) | refine zX ?_ | (refine zC ?_; intro _ _ _ _) | (refine zS ?_; intro _ _) | (apply Ws <;> intro hg))
    refine WR.call (by first | exact gN | exact gS rfl) rfl rfl (apart_fs hH2 hx hnd_row hU.cons hla.lt (by omega)) ?_
    rintro _ _ ⟨rfl, rfl⟩
    cases hgr : apt xs l with
    | true =>
      rw [if_pos hgr] at hE
      repeat' (first | refine zP ?_ | refine zA ?_ | (refine zM ?_; intro _ _) | refine zX ?_ | (refine zC ?_; intro _ _ _ _) | (refine zS ?_; intro _ _) | refine zO ?_ | (apply Ws <;> intro hg))
      exact Ends.ret1 rfl ⟨by rw [hE], n0 + 1, by omega, hH2.tail⟩
    | false =>
      rw [if_neg (by rw [hgr]; decide)] at hE
      repeat' (first | refine zP ?_ | refine zA ?_ | (refine zM ?_; intro _ _) | refine zX ?_ | (refine zC ?_; intro _ _ _ _) | (refine zS ?_; intro _ _) | refine zO ?_ | (apply Ws <;> intro hg))
      exact Ends.ret1 rfl ⟨by rw [hE], n0 + 1, by omega, hH2.tail⟩
theorem places_fs (hH : hasH M n0 H) {s : Nat} (hs : s < 1024) :
    FS C 41 [.int .u16 (s : Int)] H (fun e H' => ∃ Mx n', Own 3 1 e (nodes (plcL s 10)) Mx ∧ n0 ≤ n' ∧ hasH (Mx ++ M) n' H') := by
  refine FS.intro (pf := pf41) rfl rfl rfl ?_
  repeat' (first | refine zP ?_ | refine zA ?_ | (refine zM ?_; intro _ _) | refine zX ?_ | (refine zC ?_; intro _ _ _ _) | (refine zS ?_; intro _ _) | (apply Ws <;> intro hg))
  refine WC.loopX [(0, _)] (fun s' : KO => [(5, .int .i64 (s'.k : Int)), (3, s'.v)]) [] (fun s' H' => s'.k ≤ 10 ∧ Own 3 1 s'.v (nodes (plcL s s'.k)) s'.Mx ∧ n0 ≤ s'.n ∧ hasH (s'.Mx ++ M) s'.n H') (fun s' => 10 - s'.k) ⟨0, .slice none 0 0, [], n0⟩ (by repeat' (first | exact .nil | refine .cons rfl ?_)) rfl ⟨Nat.zero_le _, .nil, Nat.le_refl _, hH⟩ ?_
  clear hH
  rintro ⟨k, v7, Mx, n1⟩ H1 ⟨hk, hO, hn1, hH⟩
  simp only at hk hO hn1 hH
  have hil := plcL_len s k
  have his := plcL_succ s k
  dsimp only [List.cons_append, List.nil_append]
  repeat' (first | refine zP ?_ | refine zA ?_ | (refine zM ?_; intro _ _) | refine zX ?_ | (refine zC ?_; intro _ _ _ _) | (refine zS ?_; intro _ _) | (apply Ws <;> intro hg))
  refine WC.condP rfl (fun hlt => ?_) (fun hlt => ?_)
  · have hk' : k < 10 := by omega
    repeat' (first | refine zP ?_ | refine zA ?_ | (refine zM ?_; intro _ _) | refine zX ?_ | (refine zC ?_; intro _ _ _ _) | (refine zS ?_; intro _ _) | (apply Ws <;> intro hg))
    refine WR.call (by first | exact gN | exact gS rfl) rfl rfl (only_fs k (by omega) _) ?_
    rintro _ _ ⟨rfl, rfl⟩
    have hp16 : 2 ^ k < 1024 := by show 2 ^ k < 2 ^ 10; exact Nat.pow_lt_pow_right (by omega) (by omega)
    refine WR.op (by first | exact gN | exact gS rfl) rfl (OpV.andN rfl rfl (lt16 hs) (lt16 hp16)) ?_
    repeat' (first | refine zP ?_ | refine zA ?_ | (refine zM ?_; intro _ _) | refine zX ?_ | (refine zC ?_; intro _ _ _ _) | (refine zS ?_; intro _ _) | (apply Ws <;> intro hg))
    by_cases hm : s.testBit k = true
    · rw [if_pos hm] at his
      refine WC.condT (by rw [show decide (((s &&& 2 ^ k : Nat) : Int) ≠ 0) = true from decide_eq_true (and_pow_ne.2 hm)]; rfl) ?_
      repeat' (first | refine zP ?_ | refine zA ?_ | (refine zM ?_; intro _ _) | refine zX ?_ | (refine zC ?_; intro _ _ _ _) | (refine zS ?_; intro _ _) | refine zO ?_ | (apply Ws <;> intro hg))
      refine WR.append1F [] Mx M rfl rfl rfl rfl hO hH (new := [.int .i64 (k : Int)]) rfl rfl rfl (Nat.le_refl _) (by decide) (by simp; omega) fun v' Mx' n' H' q1 q2 q3 => ?_
      repeat' (first | refine zP ?_ | refine zA ?_ | (refine zM ?_; intro _ _) | refine zX ?_ | (refine zC ?_; intro _ _ _ _) | (refine zS ?_; intro _ _) | (apply Ws <;> intro hg))
      refine Ends.loop ⟨k + 1, v', Mx', n'⟩ (by simp only; omega) (by repeat' (first | exact .nil | refine .cons rfl ?_)) rfl ⟨hk', ?_, by simp only; omega, q2⟩
      simp only
      rw [his, nodes_snoc]; exact q1
    · rw [if_neg hm] at his
      refine WC.condF (by rw [show decide (((s &&& 2 ^ k : Nat) : Int) ≠ 0) = false from decide_eq_false (fun h => hm (and_pow_ne.1 h))]; rfl) ?_
      repeat' (first | refine zP ?_ | refine zA ?_ | (refine zM ?_; intro _ _) | refine zX ?_ | (refine zC ?_; intro _ _ _ _) | (refine zS ?_; intro _ _) | refine zO ?_ | (apply Ws <;> intro hg))
      refine Ends.loop ⟨k + 1, v7, Mx, n1⟩ (by simp only; omega) (by repeat' (first | exact .nil | refine .cons rfl ?_)) rfl ⟨hk', ?_, by simp only; omega, hH⟩
      simp only
      rw [his]; exact hO
  · have hkn : k = 10 := by omega
    subst hkn
    repeat' (first | refine zP ?_ | refine zA ?_ | (refine zM ?_; intro _ _) | refine zX ?_ | (refine zC ?_; intro _ _ _ _) | (refine zS ?_; intro _ _) | (apply Ws <;> intro hg))
    exact Ends.ret1 rfl ⟨Mx, n1, hO, hn1, hH⟩
theorem Hand_fs (hH : hasH M n0 H) {xs : List Int} (hS : Sl M 1 v (ints xs)) (hl : xs.length ≤ 100000) (p : Int) :
    FS C 9 [v, .int .i64 p] H (fun e H' => ∃ u M2 n', e = .tuple #[u, .int .i64 (errH xs p)] ∧ Sl (M2 ++ M) 1 u (nodes (if errH xs p = 0 then hndL xs p.toNat else [])) ∧ n0 ≤ n' ∧ hasH (M2 ++ M) n' H') := by
  refine FS.intro (pf := pf9) rfl rfl rfl ?_
  repeat' (first | refine zP ?_ | refine zA ?_ | (refine zM ?_; intro _ _) | refine zX ?_ | (refine zC ?_; intro _ _ _ _) | (refine zS ?_; intro _ _) | (apply Ws <;> intro hg))
  refine WR.call (by first | exact gN | exact gS rfl) rfl rfl (Check_fs hH hS hl) ?_
  rintro _ H1 ⟨rfl, rfl⟩
  repeat' (first | refine zP ?_ | refine zA ?_ | (refine zM ?_; intro _ _) | refine zX ?_ | (refine zC ?_; intro _ _ _ _) | (refine zS ?_; intro _ _) | (apply Ws <;> intro hg))
  refine WC.condP rfl (fun h0 => ?_) (fun h0 => ?_)
  · have hE : errH xs p = errS xs := by unfold errH; rw [if_pos h0]
    repeat' (first | refine zP ?_ | refine zA ?_ | (refine zM ?_; intro _ _) | refine zX ?_ | (refine zC ?_; intro _ _ _ _) | (refine zS ?_; intro _ _) | (apply Ws <;> intro hg))
    exact Ends.ret2 rfl rfl ⟨_, [], n0, by rw [hE], by rw [hE, if_neg h0]; exact .nil 0, Nat.le_refl _, hH⟩
  · have h00 : errS xs = 0 := by omega
    have hx := errS_zero.1 h00
    have h10 := hx.most
    repeat' (first | refine zP ?_ | refine zA ?_ | (refine zM ?_; intro _ _) | refine zX ?_ | (refine zC ?_; intro _ _ _ _) | (refine zS ?_; intro _ _) | (apply Ws <;> intro hg))
    refine WR.call (by first | exact gN | exact gS rfl) rfl rfl (isPlace_fs hH hS p) ?_
    rintro _ _ ⟨rfl, rfl⟩
    repeat' (first | refine zP ?_ | refine zA ?_ | (refine zM ?_; intro _ _) | refine zX ?_ | (refine zC ?_; intro _ _ _ _) | (refine zS ?_; intro _ _) | (apply Ws <;> intro hg))
    refine WC.condP rfl (fun hp => ?_) (fun hp => ?_)
    · have hE : errH xs p = 2 := by unfold errH; rw [if_neg h0, if_neg (by omega)]
      repeat' (first | refine zP ?_ | refine zA ?_ | (refine zM ?_; intro _ _) | refine zX ?_ | (refine zC ?_; intro _ _ _ _) | (refine zS ?_; intro _ _) | (apply Ws <;> intro hg))
      exact Ends.ret2 rfl rfl ⟨_, [], n0, by rw [hE], by rw [hE, if_neg (by decide)]; exact .nil 0, Nat.le_refl _, hH⟩
    · have hp2 : 0 ≤ p ∧ p < xs.length := by omega
      have hE : errH xs p = 0 := by unfold errH; rw [if_neg h0, if_pos hp2]
      obtain ⟨q, rfl⟩ : ∃ q : Nat, p = (q : Int) := ⟨p.toNat, by omega⟩
      have hq : q < xs.length := by omega
      repeat' (first | refine zP ?_ | refine zA ?_ | (refine zM ?_; intro _ _) | refine zX ?_ | (refine zC ?_; intro _ _ _ _) | (refine zS ?_; intro _ _) | (apply Ws <;> intro hg))
      refine WR.call (by first | exact gN | exact gS rfl) rfl rfl (handsOf_fs hH hS hx) ?_
      rintro _ H2 ⟨rfl, hH2⟩
      have hV : HndV ((n0, .row 49 0 0 (numsK .u16 (hsL xs))) :: M) xs (.slice (some ⟨n0, 0, some 0⟩) xs.length (2 * xs.length + 1)) := hnd_row
      unfold HndV at hV
      have hlen := hsL_len xs
      have hg := hsL_get hq
      repeat' (first | refine zP ?_ | refine zA ?_ | (refine zM ?_; intro _ _) | refine zX ?_ | (refine zC ?_; intro _ _ _ _) | (refine zS ?_; intro _ _) | (apply Ws <;> intro hg))
      rw [hg]
      refine WR.call (by first | exact gN | exact gS rfl) rfl rfl (places_fs hH2 (hm_lt10 h10 q)) ?_
      rintro e3 H3 ⟨Mx, n3, hO, hn3, hH3⟩
      repeat' (first | refine zP ?_ | refine zA ?_ | (refine zM ?_; intro _ _) | refine zX ?_ | (refine zC ?_; intro _ _ _ _) | (refine zS ?_; intro _ _) | (apply Ws <;> intro hg))
      refine Ends.ret2 rfl rfl ⟨_, Mx ++ [(n0, .row 49 0 0 (numsK .u16 (hsL xs)))], n3, by rw [hE], ?_, by omega, hH3.perm (by classical exact List.perm_iff_count.2 (fun a => by simp only [defds, List.map_cons, List.map_nil, List.count_append, List.count_cons, List.count_nil, List.cons_append, List.nil_append, List.append_nil]; omega))⟩
      rw [hE, if_pos rfl, Int.toNat_natCast, ← plcL_hm h10]
      exact (hO.sl []).mono fun q hq => by rw [List.append_nil] at hq; simp [hq]
end
end Go.Proofs.Ytcfffhkabhmkmaa.Ps

/- The reference: checks, what is at hand, what guards, what is apart. -/
namespace Go.Proofs.Ytcfffhkabhmkmaa.Ps
open Go Go.Abs Go.Mth
set_option linter.unusedVariables false
set_option linter.unusedSimpArgs false
def hndT (xs : List Int) (p k : Nat) : List Nat := (List.range k).filter (adj xs p)
theorem hndT_succ (xs : List Int) (p k : Nat) : hndT xs p (k + 1) = if adj xs p k = true then hndT xs p k ++ [k] else hndT xs p k := by
  unfold hndT
  rw [List.range_succ, List.filter_append]
  by_cases h : adj xs p k = true
  · rw [if_pos h, List.filter_cons_of_pos h]; simp
  · rw [if_neg h, List.filter_cons_of_neg h]; simp
theorem hndT_len (xs : List Int) (p k : Nat) : (hndT xs p k).length ≤ k := by
  have := List.length_filter_le (adj xs p) (List.range k)
  simpa [hndT] using this
theorem hndL_len (xs : List Int) (p : Nat) : (hndL xs p).length ≤ xs.length := hndT_len xs p xs.length
attribute [local irreducible] gOK WS WC WR WD Ends FS YS OpV seqK blockK loopK midK retK rdK asgK rangeEnd sat Cell
section
variable {M : HL} {n0 : Nat} {H : Heap} {v w : Value}
theorem in_fs (a lo hi : Int) (H : Heap) : FS C 42 [.int .i64 a, .int .i64 lo, .int .i64 hi] H (fun e H' => H' = H ∧ e = .bool (decide (lo ≤ a ∧ a ≤ hi))) := by
  refine FS.intro (pf := pf42) rfl rfl rfl ?_
  repeat' (first | refine zP ?_ | refine zA ?_ | (refine zM ?_; intro _ _) | refine zX ?_ | (refine zC ?_; intro _ _ _ _) | (refine zS ?_; intro _ _) | (apply Ws <;> intro hg))
  · exact Ends.ret1 rfl ⟨rfl, by congr 1; rw [decide_eq_decide]; omega⟩
  · exact Ends.ret1 rfl ⟨rfl, by rw [decide_eq_false (by omega)]⟩
theorem rCheck_fs (hH : hasH M n0 H) {xs : List Int} (hS : Sl M 1 v (ints xs)) (hx : xs.length ≤ 100000) :
    FS C 13 [v] H (fun e H' => H' = H ∧ e = .int .i64 (errS xs)) := by
  have hv := hS.one_
  refine FS.intro (pf := pf13) rfl rfl rfl ?_
  repeat' (first | refine zP ?_ | refine zA ?_ | (refine zM ?_; intro _ _) | refine zX ?_ | (refine zC ?_; intro _ _ _ _) | (refine zS ?_; intro _ _) | (apply Ws <;> intro hg))
  refine WC.condP rfl (fun h0 => ?_) (fun h0 => ?_)
  · repeat' (first | refine zP ?_ | refine zA ?_ | (refine zM ?_; intro _ _) | refine zX ?_ | (refine zC ?_; intro _ _ _ _) | (refine zS ?_; intro _ _) | (apply Ws <;> intro hg))
    refine Ends.ret1 rfl ⟨rfl, ?_⟩
    unfold errS; rw [if_pos (by omega)]
  · repeat' (first | refine zP ?_ | refine zA ?_ | (refine zM ?_; intro _ _) | refine zX ?_ | (refine zC ?_; intro _ _ _ _) | (refine zS ?_; intro _ _) | (apply Ws <;> intro hg))
    refine WC.condP rfl (fun h7 => ?_) (fun h7 => ?_)
    · repeat' (first | refine zP ?_ | refine zA ?_ | (refine zM ?_; intro _ _) | refine zX ?_ | (refine zC ?_; intro _ _ _ _) | (refine zS ?_; intro _ _) | (apply Ws <;> intro hg))
      refine Ends.ret1 rfl ⟨rfl, ?_⟩
      unfold errS; rw [if_neg (by omega), if_pos (by omega)]
    · repeat' (first | refine zP ?_ | refine zA ?_ | (refine zM ?_; intro _ _) | refine zX ?_ | (refine zC ?_; intro _ _ _ _) | (refine zS ?_; intro _ _) | (apply Ws <;> intro hg))
      refine WC.loopX [(0, v)] (fun k : Nat => [(3, .int .i64 (k : Int))]) [] (fun k H' => H' = H ∧ k ≤ xs.length ∧ firstE (errB xs) k = 0) (fun k => xs.length - k) 0 (by repeat' (first | exact .nil | refine .cons rfl ?_)) rfl ⟨rfl, Nat.zero_le _, rfl⟩ ?_
      rintro k H' ⟨rfl, hk, hz⟩
      dsimp only [List.cons_append, List.nil_append]
      repeat' (first | refine zP ?_ | refine zA ?_ | (refine zM ?_; intro _ _) | refine zX ?_ | (refine zC ?_; intro _ _ _ _) | (refine zS ?_; intro _ _) | (apply Ws <;> intro hg))
      refine WC.condP rfl (fun hlt => ?_) (fun hlt => ?_)
      · have hk' : k < xs.length := by omega
        have hbad : ∀ {c : Int}, errB xs k = 2 → (if xs.length = 0 then 4 else if 10 < xs.length then 3 else firstE (errB xs) xs.length) = 2 := fun {_} h1 => by
          rw [if_neg (by omega), if_neg (by omega), firstE_at hz (by rw [h1]; decide) hk', h1]
        rcases Nat.eq_zero_or_pos k with rfl | hk0
        · have e0 : errB xs 0 = if xs.getD 0 0 = -1 then 0 else 2 := by unfold errB; rw [if_pos rfl]
          by_cases hr : xs.getD 0 0 = -1
          · rw [if_pos hr] at e0
            repeat' (first | refine zP ?_ | refine zA ?_ | (refine zM ?_; intro _ _) | refine zX ?_ | (refine zC ?_; intro _ _ _ _) | (refine zS ?_; intro _ _) | refine zO ?_ | (apply Ws <;> intro hg))
            exact Ends.loop 1 (by omega) (by repeat' (first | exact .nil | refine .cons rfl ?_)) rfl ⟨rfl, by omega, firstE_succ hz e0⟩
          · rw [if_neg hr] at e0
            repeat' (first | refine zP ?_ | refine zA ?_ | (refine zM ?_; intro _ _) | refine zX ?_ | (refine zC ?_; intro _ _ _ _) | (refine zS ?_; intro _ _) | refine zO ?_ | (apply Ws <;> intro hg))
            refine Ends.ret1 rfl ⟨rfl, ?_⟩
            unfold errS; rw [hbad (c := 0) e0]
        · have e0 : errB xs k = if 0 ≤ xs.getD k 0 ∧ xs.getD k 0 < k then 0 else 2 := by unfold errB; rw [if_neg (by omega)]
          repeat' (first | refine zP ?_ | refine zA ?_ | (refine zM ?_; intro _ _) | refine zX ?_ | (refine zC ?_; intro _ _ _ _) | (refine zS ?_; intro _ _) | refine zO ?_ | (apply Ws <;> intro hg))
          refine WR.call (by first | exact gN | exact gS rfl) rfl rfl (in_fs _ _ _ _) ?_
          rintro _ _ ⟨rfl, rfl⟩
          by_cases hr : 0 ≤ xs.getD k 0 ∧ xs.getD k 0 ≤ (k : Int) - 1
          · rw [if_pos (by omega)] at e0
            repeat' (first | refine zP ?_ | refine zA ?_ | (refine zM ?_; intro _ _) | refine zX ?_ | (refine zC ?_; intro _ _ _ _) | (refine zS ?_; intro _ _) | refine zO ?_ | (apply Ws <;> intro hg))
            exact Ends.loop (k + 1) (by omega) (by repeat' (first | exact .nil | refine .cons rfl ?_)) rfl ⟨rfl, hk', firstE_succ hz e0⟩
          · rw [if_neg (by omega)] at e0
            repeat' (first | refine zP ?_ | refine zA ?_ | (refine zM ?_; intro _ _) | refine zX ?_ | (refine zC ?_; intro _ _ _ _) | (refine zS ?_; intro _ _) | refine zO ?_ | (apply Ws <;> intro hg))
            refine Ends.ret1 rfl ⟨rfl, ?_⟩
            unfold errS; rw [hbad (c := 0) e0]
      · have hkn : k = xs.length := by omega
        subst hkn
        repeat' (first | refine zP ?_ | refine zA ?_ | (refine zM ?_; intro _ _) | refine zX ?_ | (refine zC ?_; intro _ _ _ _) | (refine zS ?_; intro _ _) | (apply Ws <;> intro hg))
        refine Ends.ret1 rfl ⟨rfl, ?_⟩
        unfold errS; rw [if_neg (by omega), if_neg (by omega), hz]
theorem hand_fs (hH : hasH M n0 H) {xs : List Int} (hS : Sl M 1 v (ints xs)) (hx : xs.length ≤ 1000) {p : Nat} (hp : p < xs.length) :
    FS C 43 [v, .int .i64 (p : Int)] H (fun e H' => ∃ Mx n', Own 3 1 e (nodes (hndL xs p)) Mx ∧ n0 ≤ n' ∧ hasH (Mx ++ M) n' H') := by
  have hv := hS.one_
  refine FS.intro (pf := pf43) rfl rfl rfl ?_
  repeat' (first | refine zP ?_ | refine zA ?_ | (refine zM ?_; intro _ _) | refine zX ?_ | (refine zC ?_; intro _ _ _ _) | (refine zS ?_; intro _ _) | (apply Ws <;> intro hg))
  refine WC.loopX [(0, v), (1, _)] (fun s : KO => [(6, .int .i64 (s.k : Int)), (5, s.v)]) [] (fun s H' => s.k ≤ xs.length ∧ Own 3 1 s.v (nodes (hndT xs p s.k)) s.Mx ∧ n0 ≤ s.n ∧ hasH (s.Mx ++ M) s.n H') (fun s => xs.length - s.k) ⟨0, .slice none 0 0, [], n0⟩ (by repeat' (first | exact .nil | refine .cons rfl ?_)) rfl ⟨Nat.zero_le _, .nil, Nat.le_refl _, hH⟩ ?_
  clear hH
  rintro ⟨k, v7, Mx, n1⟩ H1 ⟨hk, hO, hn1, hH⟩
  simp only at hk hO hn1 hH
  have hil := hndT_len xs p k
  have his := hndT_succ xs p k
  have hS1 := hS.mono fun q hq => List.mem_append_right Mx hq
  dsimp only [List.cons_append, List.nil_append]
  repeat' (first | refine zP ?_ | refine zA ?_ | (refine zM ?_; intro _ _) | refine zX ?_ | (refine zC ?_; intro _ _ _ _) | (refine zS ?_; intro _ _) | (apply Ws <;> intro hg))
  refine WC.condP rfl (fun hlt => ?_) (fun hlt => ?_)
  · have hk' : k < xs.length := by omega
    have hadj := adj_iff (xs := xs) (i := p) (j := k)
    by_cases h1 : k = p
    · rw [if_pos (hadj.2 (.inl h1.symm))] at his
      repeat' (first | refine zP ?_ | refine zA ?_ | (refine zM ?_; intro _ _) | refine zX ?_ | (refine zC ?_; intro _ _ _ _) | (refine zS ?_; intro _ _) | refine zO ?_ | (apply Ws <;> intro hg))
      refine WR.append1F [] Mx M rfl rfl rfl rfl hO hH (new := [.int .i64 (k : Int)]) rfl rfl rfl (Nat.le_refl _) (by decide) (by simp; omega) fun v' Mx' n' H' q1 q2 q3 => ?_
      repeat' (first | refine zP ?_ | refine zA ?_ | (refine zM ?_; intro _ _) | refine zX ?_ | (refine zC ?_; intro _ _ _ _) | (refine zS ?_; intro _ _) | (apply Ws <;> intro hg))
      refine Ends.loop ⟨k + 1, v', Mx', n'⟩ (by simp only; omega) (by repeat' (first | exact .nil | refine .cons rfl ?_)) rfl ⟨hk', ?_, by simp only; omega, q2⟩
      simp only
      rw [his, nodes_snoc]; exact q1
    · by_cases h2 : xs.getD k 0 = (p : Int)
      · rw [if_pos (hadj.2 (.inr (.inr h2)))] at his
        repeat' (first | refine zP ?_ | refine zA ?_ | (refine zM ?_; intro _ _) | refine zX ?_ | (refine zC ?_; intro _ _ _ _) | (refine zS ?_; intro _ _) | refine zO ?_ | (apply Ws <;> intro hg))
        refine WR.append1F [] Mx M rfl rfl rfl rfl hO hH (new := [.int .i64 (k : Int)]) rfl rfl rfl (Nat.le_refl _) (by decide) (by simp; omega) fun v' Mx' n' H' q1 q2 q3 => ?_
        repeat' (first | refine zP ?_ | refine zA ?_ | (refine zM ?_; intro _ _) | refine zX ?_ | (refine zC ?_; intro _ _ _ _) | (refine zS ?_; intro _ _) | (apply Ws <;> intro hg))
        refine Ends.loop ⟨k + 1, v', Mx', n'⟩ (by simp only; omega) (by repeat' (first | exact .nil | refine .cons rfl ?_)) rfl ⟨hk', ?_, by simp only; omega, q2⟩
        simp only
        rw [his, nodes_snoc]; exact q1
      · by_cases h3 : xs.getD p 0 = (k : Int)
        · rw [if_pos (hadj.2 (.inr (.inl h3)))] at his
          repeat' (first | refine zP ?_ | refine zA ?_ | (refine zM ?_; intro _ _) | refine zX ?_ | (refine zC ?_; intro _ _ _ _) | (refine zS ?_; intro _ _) | refine zO ?_ | (apply Ws <;> intro hg))
          refine WR.append1F [] Mx M rfl rfl rfl rfl hO hH (new := [.int .i64 (k : Int)]) rfl rfl rfl (Nat.le_refl _) (by decide) (by simp; omega) fun v' Mx' n' H' q1 q2 q3 => ?_
          repeat' (first | refine zP ?_ | refine zA ?_ | (refine zM ?_; intro _ _) | refine zX ?_ | (refine zC ?_; intro _ _ _ _) | (refine zS ?_; intro _ _) | (apply Ws <;> intro hg))
          refine Ends.loop ⟨k + 1, v', Mx', n'⟩ (by simp only; omega) (by repeat' (first | exact .nil | refine .cons rfl ?_)) rfl ⟨hk', ?_, by simp only; omega, q2⟩
          simp only
          rw [his, nodes_snoc]; exact q1
        · rw [if_neg (fun h => by rcases hadj.1 h with h | h | h; exact h1 h.symm; exact h3 h; exact h2 h)] at his
          repeat' (first | refine zP ?_ | refine zA ?_ | (refine zM ?_; intro _ _) | refine zX ?_ | (refine zC ?_; intro _ _ _ _) | (refine zS ?_; intro _ _) | refine zO ?_ | (apply Ws <;> intro hg))
          refine Ends.loop ⟨k + 1, v7, Mx, n1⟩ (by simp only; omega) (by repeat' (first | exact .nil | refine .cons rfl ?_)) rfl ⟨hk', ?_, by simp only; omega, hH⟩
          simp only
          rw [his]; exact hO
  · have hkn : k = xs.length := by omega
    subst hkn
    repeat' (first | refine zP ?_ | refine zA ?_ | (refine zM ?_; intro _ _) | refine zX ?_ | (refine zC ?_; intro _ _ _ _) | (refine zS ?_; intro _ _) | (apply Ws <;> intro hg))
    exact Ends.ret1 rfl ⟨Mx, n1, hO, hn1, hH⟩
theorem has_fs (hH : hasH M n0 H) {l : List Nat} (hS : Sl M 1 v (nodes l)) (hl : l.length ≤ 100000) (a : Nat) :
    FS C 72 [v, .int .i64 (a : Int)] H (fun e H' => e = .bool (decide (a ∈ l)) ∧ H' = H) := by
  have hv := hS.one_
  refine FS.intro (pf := pf72) rfl rfl rfl ?_
  repeat' (first | refine zP ?_ | refine zA ?_ | (refine zM ?_; intro _ _) | refine zX ?_ | (refine zC ?_; intro _ _ _ _) | (refine zS ?_; intro _ _) | (apply Ws <;> intro hg))
  refine WC.loopX [(0, v), (1, _)] (fun k : Nat => [(5, .int .i64 (k : Int))]) [] (fun k H' => H' = H ∧ k ≤ l.length ∧ a ∉ l.take k) (fun k => l.length - k) 0 (by repeat' (first | exact .nil | refine .cons rfl ?_)) rfl ⟨rfl, Nat.zero_le _, by simp⟩ ?_
  rintro k H' ⟨rfl, hk, hno⟩
  dsimp only [List.cons_append, List.nil_append]
  repeat' (first | refine zP ?_ | refine zA ?_ | (refine zM ?_; intro _ _) | refine zX ?_ | (refine zC ?_; intro _ _ _ _) | (refine zS ?_; intro _ _) | (apply Ws <;> intro hg))
  refine WC.condP rfl (fun hlt => ?_) (fun hlt => ?_)
  · have hk' : k < l.length := by omega
    by_cases he : l.getD k 0 = a
    · repeat' (first | refine zP ?_ | refine zA ?_ | (refine zM ?_; intro _ _) | refine zX ?_ | (refine zC ?_; intro _ _ _ _) | (refine zS ?_; intro _ _) | refine zO ?_ | (apply Ws <;> intro hg))
      refine Ends.ret1 rfl ⟨?_, rfl⟩
      rw [decide_eq_true (by rw [← he]; exact getD_mem hk')]
    · repeat' (first | refine zP ?_ | refine zA ?_ | (refine zM ?_; intro _ _) | refine zX ?_ | (refine zC ?_; intro _ _ _ _) | (refine zS ?_; intro _ _) | refine zO ?_ | (apply Ws <;> intro hg))
      refine Ends.loop (k + 1) (by omega) (by repeat' (first | exact .nil | refine .cons rfl ?_)) rfl ⟨rfl, hk', ?_⟩
      rw [List.take_succ_eq_append_getElem hk', List.mem_append, ← getD_eq (a := 0)]
      rintro (h | h)
      · exact hno h
      · exact he (List.mem_singleton.1 h).symm
  · have hkl : k = l.length := by omega
    subst hkl
    rw [List.take_length] at hno
    repeat' (first | refine zP ?_ | refine zA ?_ | (refine zM ?_; intro _ _) | refine zX ?_ | (refine zC ?_; intro _ _ _ _) | (refine zS ?_; intro _ _) | (apply Ws <;> intro hg))
    exact Ends.ret1 rfl ⟨by rw [decide_eq_false hno], rfl⟩
theorem common_fs (hH : hasH M n0 H) {l m : List Nat} (hS : Sl M 1 v (nodes l)) (hU : Sl M 1 w (nodes m)) (hl : l.length ≤ 100000) (hm : m.length ≤ 100000) :
    FS C 64 [v, w] H (fun e H' => e = .bool (decide (∃ x ∈ l, x ∈ m)) ∧ H' = H) := by
  have hv := hS.one_
  have hw := hU.one_
  refine FS.intro (pf := pf64) rfl rfl rfl ?_
  repeat' (first | refine zP ?_ | refine zA ?_ | (refine zM ?_; intro _ _) | refine zX ?_ | (refine zC ?_; intro _ _ _ _) | (refine zS ?_; intro _ _) | (apply Ws <;> intro hg))
  refine WC.loopX [(0, v), (1, w)] (fun k : Nat => [(5, .int .i64 (k : Int))]) [] (fun k H' => H' = H ∧ k ≤ l.length ∧ ¬ ∃ x ∈ l.take k, x ∈ m) (fun k => l.length - k) 0 (by repeat' (first | exact .nil | refine .cons rfl ?_)) rfl ⟨rfl, Nat.zero_le _, by simp⟩ ?_
  rintro k H' ⟨rfl, hk, hno⟩
  dsimp only [List.cons_append, List.nil_append]
  repeat' (first | refine zP ?_ | refine zA ?_ | (refine zM ?_; intro _ _) | refine zX ?_ | (refine zC ?_; intro _ _ _ _) | (refine zS ?_; intro _ _) | (apply Ws <;> intro hg))
  refine WC.condP rfl (fun hlt => ?_) (fun hlt => ?_)
  · have hk' : k < l.length := by omega
    repeat' (first | refine zP ?_ | refine zA ?_ | (refine zM ?_; intro _ _) | refine zX ?_ | (refine zC ?_; intro _ _ _ _) | (refine zS ?_; intro _ _) | (apply Ws <;> intro hg))
    refine WR.call (by first | exact gN | exact gS rfl) rfl rfl (has_fs hH hU hm _) ?_
    rintro _ _ ⟨rfl, rfl⟩
    by_cases he : l.getD k 0 ∈ m
    · rw [decide_eq_true he]
      repeat' (first | refine zP ?_ | refine zA ?_ | (refine zM ?_; intro _ _) | refine zX ?_ | (refine zC ?_; intro _ _ _ _) | (refine zS ?_; intro _ _) | refine zO ?_ | (apply Ws <;> intro hg))
      refine Ends.ret1 rfl ⟨?_, rfl⟩
      rw [decide_eq_true ⟨_, getD_mem hk', he⟩]
    · rw [decide_eq_false he]
      repeat' (first | refine zP ?_ | refine zA ?_ | (refine zM ?_; intro _ _) | refine zX ?_ | (refine zC ?_; intro _ _ _ _) | (refine zS ?_; intro _ _) | refine zO ?_ | (apply Ws <;> intro hg))
      refine Ends.loop (k + 1) (by omega) (by repeat' (first | exact .nil | refine .cons rfl ?_)) rfl ⟨rfl, hk', ?_⟩
      rw [List.take_succ_eq_append_getElem hk', ← getD_eq (a := 0)]
      rintro ⟨x, hx, hxm⟩
      rcases List.mem_append.1 hx with h | h
      · exact hno ⟨x, h, hxm⟩
      · rw [List.mem_singleton.1 h] at hxm; exact he hxm
  · have hkl : k = l.length := by omega
    subst hkl
    rw [List.take_length] at hno
    repeat' (first | refine zP ?_ | refine zA ?_ | (refine zM ?_; intro _ _) | refine zX ?_ | (refine zC ?_; intro _ _ _ _) | (refine zS ?_; intro _ _) | (apply Ws <;> intro hg))
    exact Ends.ret1 rfl ⟨by rw [decide_eq_false hno], rfl⟩
theorem com_grd {xs : List Int} {i : Nat} {l : List Nat} (hl : ∀ x ∈ l, x < xs.length) : (∃ x ∈ hndL xs i, x ∈ l) ↔ ∃ p ∈ l, adj xs p i = true := by
  constructor
  · rintro ⟨x, h1, h2⟩
    exact ⟨x, h2, by rw [adj_comm]; exact (List.mem_filter.1 h1).2⟩
  · rintro ⟨p, h1, h2⟩
    exact ⟨p, List.mem_filter.2 ⟨List.mem_range.2 (hl p h1), by rw [adj_comm]; exact h2⟩, h1⟩
theorem com_apt {xs : List Int} {i j : Nat} : (∃ x ∈ hndL xs i, x ∈ hndL xs j) ↔ hm xs i &&& hm xs j ≠ 0 := by
  constructor
  · rintro ⟨x, h1, h2⟩ h
    refine and_zero.1 h x ⟨hm_bit.2 ?_, hm_bit.2 ?_⟩
    · have := List.mem_filter.1 h1; exact ⟨List.mem_range.1 this.1, this.2⟩
    · have := List.mem_filter.1 h2; exact ⟨List.mem_range.1 this.1, this.2⟩
  · intro h
    refine Classical.byContradiction fun hc => h (and_zero.2 fun j' hj => hc ⟨j', List.mem_filter.2 ?_, List.mem_filter.2 ?_⟩)
    · have := hm_bit.1 hj.1; exact ⟨List.mem_range.2 this.1, this.2⟩
    · have := hm_bit.1 hj.2; exact ⟨List.mem_range.2 this.1, this.2⟩
theorem rguards_fs (hH : hasH M n0 H) {xs : List Int} (hS : Sl M 1 v (ints xs)) (hx : xs.length ≤ 1000) {l : List Nat} (hU : Sl M 1 w (nodes l)) (hl : ∀ x ∈ l, x < xs.length) (hll : l.length ≤ 1000) :
    FS C 48 [v, w] H (fun e H' => e = .bool (grd xs l) ∧ ∃ n', n0 ≤ n' ∧ hasH M n' H') := by
  have hv := hS.one_
  have hw := hU.one_
  refine FS.intro (pf := pf48) rfl rfl rfl ?_
  repeat' (first | refine zP ?_ | refine zA ?_ | (refine zM ?_; intro _ _) | refine zX ?_ | (refine zC ?_; intro _ _ _ _) | (refine zS ?_; intro _ _) | (apply Ws <;> intro hg))
  refine WC.loopX [(0, v), (1, w)] (fun s : KC => [(5, .int .i64 (s.k : Int))]) [] (fun s H' => s.k ≤ xs.length ∧ (∀ i, i < s.k → ∃ p ∈ l, adj xs p i = true) ∧ n0 ≤ s.n ∧ hasH M s.n H') (fun s => xs.length - s.k) ⟨0, n0⟩ (by repeat' (first | exact .nil | refine .cons rfl ?_)) rfl ⟨Nat.zero_le _, fun i h => absurd h (Nat.not_lt_zero _), Nat.le_refl _, hH⟩ ?_
  clear hH
  rintro ⟨k, n1⟩ H1 ⟨hk, hall, hn1, hH⟩
  simp only at hk hall hn1 hH
  dsimp only [List.cons_append, List.nil_append]
  repeat' (first | refine zP ?_ | refine zA ?_ | (refine zM ?_; intro _ _) | refine zX ?_ | (refine zC ?_; intro _ _ _ _) | (refine zS ?_; intro _ _) | (apply Ws <;> intro hg))
  refine WC.condP rfl (fun hlt => ?_) (fun hlt => ?_)
  · have hk' : k < xs.length := by omega
    repeat' (first | refine zP ?_ | refine zA ?_ | (refine zM ?_; intro _ _) | refine zX ?_ | (refine zC ?_; intro _ _ _ _) | (refine zS ?_; intro _ _) | (apply Ws <;> intro hg))
    refine WR.call (by first | exact gN | exact gS rfl) rfl rfl (hand_fs hH hS hx hk') ?_
    rintro e2 H2 ⟨Mx, n2, hO, hn2, hH2⟩
    have hlen := hndL_len xs k
    repeat' (first | refine zP ?_ | refine zA ?_ | (refine zM ?_; intro _ _) | refine zX ?_ | (refine zC ?_; intro _ _ _ _) | (refine zS ?_; intro _ _) | (apply Ws <;> intro hg))
    refine WR.call (by first | exact gN | exact gS rfl) rfl rfl (common_fs hH2 (hO.sl M) (hU.mono fun q hq => List.mem_append_right Mx hq) (by omega) (by omega)) ?_
    rintro _ _ ⟨rfl, rfl⟩
    have hcg := com_grd (i := k) hl
    by_cases hc : ∃ x ∈ hndL xs k, x ∈ l
    · rw [decide_eq_true hc]
      repeat' (first | refine zP ?_ | refine zA ?_ | (refine zM ?_; intro _ _) | refine zX ?_ | (refine zC ?_; intro _ _ _ _) | (refine zS ?_; intro _ _) | refine zO ?_ | (apply Ws <;> intro hg))
      refine Ends.loop ⟨k + 1, n2⟩ (by simp only; omega) (by repeat' (first | exact .nil | refine .cons rfl ?_)) rfl ⟨hk', fun i hi => ?_, by simp only; omega, hH2.sub (List.sublist_append_right _ _)⟩
      by_cases e : i = k
      · rw [e]; exact hcg.1 hc
      · exact hall i (by simp only at hi; omega)
    · rw [decide_eq_false hc]
      repeat' (first | refine zP ?_ | refine zA ?_ | (refine zM ?_; intro _ _) | refine zX ?_ | (refine zC ?_; intro _ _ _ _) | (refine zS ?_; intro _ _) | refine zO ?_ | (apply Ws <;> intro hg))
      refine Ends.ret1 rfl ⟨?_, n2, by omega, hH2.sub (List.sublist_append_right _ _)⟩
      cases hg : grd xs l with
      | false => rfl
      | true => exact absurd (hcg.2 (grd_iff.1 hg k hk')) hc
  · have hkl : k = xs.length := by omega
    subst hkl
    repeat' (first | refine zP ?_ | refine zA ?_ | (refine zM ?_; intro _ _) | refine zX ?_ | (refine zC ?_; intro _ _ _ _) | (refine zS ?_; intro _ _) | (apply Ws <;> intro hg))
    exact Ends.ret1 rfl ⟨by rw [grd_iff.2 hall], n1, hn1, hH⟩
end
end Go.Proofs.Ytcfffhkabhmkmaa.Ps

/- The reference: lists of places; the law PostHands. -/
namespace Go.Proofs.Ytcfffhkabhmkmaa.Ps
open Go Go.Abs Go.Mth
set_option linter.unusedVariables false
set_option linter.unusedSimpArgs false
theorem pw_step {xs : List Int} {l : List Nat} {i : Nat} (hi : i < l.length) (h : (l.take i).Pairwise fun a b => hm xs a &&& hm xs b = 0) (hk : ∀ k, k < i → hm xs (l.getD i 0) &&& hm xs (l.getD k 0) = 0) : (l.take (i + 1)).Pairwise fun a b => hm xs a &&& hm xs b = 0 := by
  rw [List.take_succ_eq_append_getElem hi, ← getD_eq (a := 0), List.pairwise_append]
  refine ⟨h, by simp, fun a ha b hb => ?_⟩
  rw [List.mem_singleton.1 hb]
  obtain ⟨k, hk2, rfl⟩ := List.mem_iff_getElem.1 ha
  have hk3 : k < i := by rw [List.length_take] at hk2; omega
  have := hk k hk3
  rw [List.getElem_take, ← getD_eq (a := 0), Nat.and_comm]
  exact this
theorem not_pw {xs : List Int} {l : List Nat} {i k : Nat} (hi : i < l.length) (hk : k < i) (h : hm xs (l.getD i 0) &&& hm xs (l.getD k 0) ≠ 0) : apt xs l = false := by
  refine decide_eq_false fun hp => h ?_
  have := List.pairwise_iff_getElem.1 hp k i (by omega) hi hk
  rw [Nat.and_comm, getD_eq hi, getD_eq (by omega)]
  exact this
structure KM where
  i : Nat
  k : Nat
  n : Nat
attribute [local irreducible] gOK WS WC WR WD Ends FS YS OpV seqK blockK loopK midK retK rdK asgK rangeEnd sat Cell
section
variable {M : HL} {n0 : Nat} {H : Heap} {v w : Value}
theorem sameI_fs (hH : hasH M n0 H) {a b : List Int} (hS : Sl M 1 v (ints a)) (hU : Sl M 1 w (ints b)) (ha : a.length ≤ 100000) (hb : b.length ≤ 100000) :
    FS C 11 [v, w] H (fun e H' => e = .bool (decide (a = b)) ∧ H' = H) := by
  have hv := hS.one_
  have hw := hU.one_
  refine FS.intro (pf := pf11) rfl rfl rfl ?_
  repeat' (first | refine zP ?_ | refine zA ?_ | (refine zM ?_; intro _ _) | refine zX ?_ | (refine zC ?_; intro _ _ _ _) | (refine zS ?_; intro _ _) | (apply Ws <;> intro hg))
  refine WC.condP rfl (fun hne => ?_) (fun hne => ?_)
  · repeat' (first | refine zP ?_ | refine zA ?_ | (refine zM ?_; intro _ _) | refine zX ?_ | (refine zC ?_; intro _ _ _ _) | (refine zS ?_; intro _ _) | (apply Ws <;> intro hg))
    exact Ends.ret1 rfl ⟨by rw [decide_eq_false (fun h => by rw [h] at hne; exact hne rfl)], rfl⟩
  · have hle : a.length = b.length := by omega
    repeat' (first | refine zP ?_ | refine zA ?_ | (refine zM ?_; intro _ _) | refine zX ?_ | (refine zC ?_; intro _ _ _ _) | (refine zS ?_; intro _ _) | (apply Ws <;> intro hg))
    refine WC.loopX [(0, v), (1, w)] (fun k : Nat => [(5, .int .i64 (k : Int))]) [] (fun k H' => H' = H ∧ k ≤ a.length ∧ ∀ j, j < k → a.getD j 0 = b.getD j 0) (fun k => a.length - k) 0 (by repeat' (first | exact .nil | refine .cons rfl ?_)) rfl ⟨rfl, Nat.zero_le _, fun j h => absurd h (Nat.not_lt_zero _)⟩ ?_
    rintro k H' ⟨rfl, hk, hall⟩
    dsimp only [List.cons_append, List.nil_append]
    repeat' (first | refine zP ?_ | refine zA ?_ | (refine zM ?_; intro _ _) | refine zX ?_ | (refine zC ?_; intro _ _ _ _) | (refine zS ?_; intro _ _) | (apply Ws <;> intro hg))
    refine WC.condP rfl (fun hlt => ?_) (fun hlt => ?_)
    · have hk' : k < a.length := by omega
      have hkb : k < b.length := by omega
      repeat' (first | refine zP ?_ | refine zA ?_ | (refine zM ?_; intro _ _) | refine zX ?_ | (refine zC ?_; intro _ _ _ _) | (refine zS ?_; intro _ _))
      by_cases he : a.getD k 0 = b.getD k 0
      · repeat' (first | refine zP ?_ | refine zA ?_ | (refine zM ?_; intro _ _) | refine zX ?_ | (refine zC ?_; intro _ _ _ _) | (refine zS ?_; intro _ _) | refine zO ?_ | (apply Ws <;> intro hg))
        refine Ends.loop (k + 1) (by omega) (by repeat' (first | exact .nil | refine .cons rfl ?_)) rfl ⟨rfl, hk', fun j hj => ?_⟩
        by_cases e : j = k
        · rw [e]; exact he
        · exact hall j (by omega)
      · repeat' (first | refine zP ?_ | refine zA ?_ | (refine zM ?_; intro _ _) | refine zX ?_ | (refine zC ?_; intro _ _ _ _) | (refine zS ?_; intro _ _) | refine zO ?_ | (apply Ws <;> intro hg))
        exact Ends.ret1 rfl ⟨by rw [decide_eq_false (fun h => he (by rw [h]))], rfl⟩
    · have hkl : k = a.length := by omega
      subst hkl
      repeat' (first | refine zP ?_ | refine zA ?_ | (refine zM ?_; intro _ _) | refine zX ?_ | (refine zC ?_; intro _ _ _ _) | (refine zS ?_; intro _ _) | (apply Ws <;> intro hg))
      exact Ends.ret1 rfl ⟨by rw [decide_eq_true (ext_getD (a := 0) hle hall)], rfl⟩
theorem same_fs (hH : hasH M n0 H) {a b : List Nat} (hS : Sl M 1 v (nodes a)) (hU : Sl M 1 w (nodes b)) (ha : a.length ≤ 100000) (hb : b.length ≤ 100000) :
    FS C 11 [v, w] H (fun e H' => e = .bool (decide (a = b)) ∧ H' = H) := by
  refine (sameI_fs hH (a := IL a) (b := IL b) (by rw [← nodes_IL]; exact hS) (by rw [← nodes_IL]; exact hU) (by rw [IL_len]; exact ha) (by rw [IL_len]; exact hb)).mono ?_
  rintro e H' ⟨h1, h2⟩
  refine ⟨?_, h2⟩
  rw [h1]
  congr 1
  rw [decide_eq_decide]
  constructor
  · intro h
    have := congrArg (List.map Int.toNat) h
    rwa [toNat_IL, toNat_IL] at this
  · intro h; rw [h]
set_option maxHeartbeats 1000000 in
theorem rapart_fs (hH : hasH M n0 H) {xs : List Int} (hS : Sl M 1 v (ints xs)) (hx : xs.length ≤ 1000) {l : List Nat} (hU : Sl M 1 w (nodes l)) (hl : ∀ x ∈ l, x < xs.length) (hll : l.length ≤ 1000) :
    FS C 50 [v, w] H (fun e H' => e = .bool (apt xs l) ∧ ∃ n', n0 ≤ n' ∧ hasH M n' H') := by
  have hv := hS.one_
  have hw := hU.one_
  refine FS.intro (pf := pf50) rfl rfl rfl ?_
  repeat' (first | refine zP ?_ | refine zA ?_ | (refine zM ?_; intro _ _) | refine zX ?_ | (refine zC ?_; intro _ _ _ _) | (refine zS ?_; intro _ _) | (apply Ws <;> intro hg))
  refine WC.loopX [(0, v), (1, w)] (fun s : KM => [(5, .int .i64 (s.i : Int))]) [] (fun s H' => s.i ≤ l.length ∧ (l.take s.i).Pairwise (fun a b => hm xs a &&& hm xs b = 0) ∧ n0 ≤ s.n ∧ hasH M s.n H') (fun s => l.length - s.i) ⟨0, 0, n0⟩ (by repeat' (first | exact .nil | refine .cons rfl ?_)) rfl ⟨Nat.zero_le _, by simp, Nat.le_refl _, hH⟩ ?_
  clear hH
  rintro ⟨i, _, n1⟩ H1 ⟨hi, hpw, hn1, hH⟩
  simp only at hi hpw hn1 hH
  dsimp only [List.cons_append, List.nil_append]
  repeat' (first | refine zP ?_ | refine zA ?_ | (refine zM ?_; intro _ _) | refine zX ?_ | (refine zC ?_; intro _ _ _ _) | (refine zS ?_; intro _ _) | (apply Ws <;> intro hg))
  refine WC.condP rfl (fun hlt => ?_) (fun hlt => ?_)
  · have hi' : i < l.length := by omega
    have hli := hl _ (getD_mem (a := 0) hi')
    repeat' (first | refine zP ?_ | refine zA ?_ | (refine zM ?_; intro _ _) | refine zX ?_ | (refine zC ?_; intro _ _ _ _) | (refine zS ?_; intro _ _) | (apply Ws <;> intro hg))
    refine WC.loopX [(0, v), (1, w), (5, _)] (fun s : KM => [(6, .int .i64 (s.k : Int))]) [] (fun s H' => s.k ≤ i ∧ (∀ k, k < s.k → hm xs (l.getD i 0) &&& hm xs (l.getD k 0) = 0) ∧ n0 ≤ s.n ∧ hasH M s.n H') (fun s => i - s.k) ⟨0, 0, n1⟩ (by repeat' (first | exact .nil | refine .cons rfl ?_)) rfl ⟨Nat.zero_le _, fun k h => absurd h (Nat.not_lt_zero _), hn1, hH⟩ ?_
    clear hH
    rintro ⟨_, k, n2⟩ H2 ⟨hk, hall, hn2, hH⟩
    simp only at hk hall hn2 hH
    dsimp only [List.cons_append, List.nil_append]
    repeat' (first | refine zP ?_ | refine zA ?_ | (refine zM ?_; intro _ _) | refine zX ?_ | (refine zC ?_; intro _ _ _ _) | (refine zS ?_; intro _ _) | (apply Ws <;> intro hg))
    refine WC.condP rfl (fun hlt2 => ?_) (fun hlt2 => ?_)
    · have hk' : k < i := by omega
      have hkl : k < l.length := by omega
      have hlk := hl _ (getD_mem (a := 0) hkl)
      repeat' (first | refine zP ?_ | refine zA ?_ | (refine zM ?_; intro _ _) | refine zX ?_ | (refine zC ?_; intro _ _ _ _) | (refine zS ?_; intro _ _) | (apply Ws <;> intro hg))
      refine WC.regionD ?_
      repeat' (first | refine zD ?_ | (refine zE ?_; intro _ _ _ _))
      rename_i _ _ _ _ _ _ _ hC2
      refine WD.call (by first | exact gN | exact gS rfl) rfl rfl (hand_fs hH hS hx hli) ?_
      rintro e3 H3 ⟨Mx, n3, hO, hn3, hH3⟩
      refine ⟨stands_cons (.inr (holds_at ((hC2.mono fun q hq => List.mem_append_right Mx hq).read hH3) (same_int _ _))) (stands_cons (.inl rfl) stands_nil'), ?_⟩
      refine WD.call (by first | exact gN | exact gS rfl) rfl rfl (hand_fs hH3 (hS.mono fun q hq => List.mem_append_right Mx hq) hx hlk) ?_
      rintro e4 H4 ⟨My, n4, hP, hn4, hH4⟩
      refine ⟨stands_cons (.inl rfl) (stands_cons (.inl rfl) stands_nil'), ?_⟩
      refine WD.toWR rfl ?_
      have hq1 := hndL_len xs (l.getD i 0)
      have hq2 := hndL_len xs (l.getD k 0)
      have hcA := com_apt (xs := xs) (i := l.getD i 0) (j := l.getD k 0)
      have hH5 : hasH M n4 H4 := hH4.sub ((List.sublist_append_right _ _).trans (List.sublist_append_right _ _))
      refine WR.call (by first | exact gN | exact gS rfl) rfl rfl (common_fs hH4 ((hO.sl M).mono fun q hq => List.mem_append_right My hq) (hP.sl _) (by omega) (by omega)) ?_
      rintro _ _ ⟨rfl, rfl⟩
      by_cases hc : ∃ x ∈ hndL xs (l.getD i 0), x ∈ hndL xs (l.getD k 0)
      · rw [decide_eq_true hc]
        repeat' (first | refine zP ?_ | refine zA ?_ | (refine zM ?_; intro _ _) | refine zX ?_ | (refine zC ?_; intro _ _ _ _) | (refine zS ?_; intro _ _) | refine zO ?_ | (apply Ws <;> intro hg))
        exact Ends.ret1 rfl ⟨by rw [not_pw hi' hk' (hcA.1 hc)], n4, by omega, hH5⟩
      · rw [decide_eq_false hc]
        repeat' (first | refine zP ?_ | refine zA ?_ | (refine zM ?_; intro _ _) | refine zX ?_ | (refine zC ?_; intro _ _ _ _) | (refine zS ?_; intro _ _) | refine zO ?_ | (apply Ws <;> intro hg))
        refine Ends.loop ⟨i, k + 1, n4⟩ (by simp only; omega) (by repeat' (first | exact .nil | refine .cons rfl ?_)) rfl ⟨hk', fun k2 hk2 => ?_, by simp only; omega, hH5⟩
        by_cases e : k2 = k
        · rw [e]; exact Classical.byContradiction fun h => hc (hcA.2 h)
        · exact hall k2 (by simp only at hk2; omega)
    · have hki : k = i := by omega
      subst hki
      repeat' (first | refine zP ?_ | refine zA ?_ | (refine zM ?_; intro _ _) | refine zX ?_ | (refine zC ?_; intro _ _ _ _) | (refine zS ?_; intro _ _) | (apply Ws <;> intro hg))
      exact Ends.loop ⟨k + 1, 0, n2⟩ (by simp only; omega) (by repeat' (first | exact .nil | refine .cons rfl ?_)) rfl ⟨hi', pw_step hi' hpw hall, hn2, hH⟩
  · have hil : i = l.length := by omega
    subst hil
    rw [List.take_length] at hpw
    repeat' (first | refine zP ?_ | refine zA ?_ | (refine zM ?_; intro _ _) | refine zX ?_ | (refine zC ?_; intro _ _ _ _) | (refine zS ?_; intro _ _) | (apply Ws <;> intro hg))
    exact Ends.ret1 rfl ⟨by rw [show apt xs l = true from decide_eq_true hpw], n1, hn1, hH⟩
theorem listed_fs (hH : hasH M n0 H) {xs o : List Int} (hS : Sl M 1 v (ints xs)) (hx : xs.length ≤ 100000) (hU : Sl M 1 w (ints o)) (ho : o.length ≤ 100000) :
    FS C 47 [v, w] H (fun e H' => H' = H ∧ e = .int .i64 (errL xs o)) := by
  have hv := hS.one_
  have hw := hU.one_
  refine FS.intro (pf := pf47) rfl rfl rfl ?_
  repeat' (first | refine zP ?_ | refine zA ?_ | (refine zM ?_; intro _ _) | refine zX ?_ | (refine zC ?_; intro _ _ _ _) | (refine zS ?_; intro _ _) | (apply Ws <;> intro hg))
  refine WR.call (by first | exact gN | exact gS rfl) rfl rfl (rCheck_fs hH hS hx) ?_
  rintro _ H1 ⟨rfl, rfl⟩
  repeat' (first | refine zP ?_ | refine zA ?_ | (refine zM ?_; intro _ _) | refine zX ?_ | (refine zC ?_; intro _ _ _ _) | (refine zS ?_; intro _ _) | (apply Ws <;> intro hg))
  refine WC.loopX [(0, v), (1, w)] (fun s : Nat × Int => [(6, .int .i64 (s.1 : Int)), (5, .int .i64 s.2)]) [] (fun s H' => H' = H1 ∧ s.1 ≤ o.length ∧ ((s.2 = errL xs o ∧ s.2 ≠ 0) ∨ (s.2 = 0 ∧ errS xs = 0 ∧ firstE (errP xs.length o) s.1 = 0))) (fun s => o.length - s.1) (0, errS xs) (by repeat' (first | exact .nil | refine .cons rfl ?_)) rfl ⟨rfl, Nat.zero_le _, ?_⟩ ?_
  · by_cases h0 : errS xs = 0
    · exact .inr ⟨h0, h0, rfl⟩
    · exact .inl ⟨by unfold errL; rw [if_pos h0], h0⟩
  rintro ⟨k, e5⟩ H' ⟨rfl, hk, hst⟩
  simp only at hk hst
  dsimp only [List.cons_append, List.nil_append]
  rcases hst with ⟨h1, h2⟩ | ⟨h1, h2, h3⟩
  · repeat' (first | refine zP ?_ | refine zA ?_ | (refine zM ?_; intro _ _) | refine zX ?_ | (refine zC ?_; intro _ _ _ _) | (refine zS ?_; intro _ _) | (apply Ws <;> intro hg))
    · repeat' (first | refine zP ?_ | refine zA ?_ | (refine zM ?_; intro _ _) | refine zX ?_ | (refine zC ?_; intro _ _ _ _) | (refine zS ?_; intro _ _) | refine zO ?_ | (apply Ws <;> intro hg))
      exact Ends.ret1 rfl ⟨rfl, by rw [h1]⟩
    · repeat' (first | refine zP ?_ | refine zA ?_ | (refine zM ?_; intro _ _) | refine zX ?_ | (refine zC ?_; intro _ _ _ _) | (refine zS ?_; intro _ _) | refine zO ?_ | (apply Ws <;> intro hg))
      exact Ends.ret1 rfl ⟨rfl, by rw [h1]⟩
  · subst h1
    have hE : errL xs o = firstE (errP xs.length o) o.length := by unfold errL; rw [if_neg (by omega)]
    by_cases hlt : k < o.length
    · have hbad : ∀ {c : Int}, c ≠ 0 → errP xs.length o k = c → errL xs o = c := fun {c} hc h => by
        rw [hE, firstE_at h3 (by rw [h]; exact hc) hlt, h]
      repeat' (first | refine zP ?_ | refine zA ?_ | (refine zM ?_; intro _ _) | refine zX ?_ | (refine zC ?_; intro _ _ _ _) | (refine zS ?_; intro _ _) | refine zO ?_ | (apply Ws <;> intro hg))
      refine WR.call (by first | exact gN | exact gS rfl) rfl rfl (in_fs _ _ _ _) ?_
      rintro _ _ ⟨rfl, rfl⟩
      by_cases hp : 0 ≤ o.getD k 0 ∧ o.getD k 0 ≤ (xs.length : Int) - 1
      · have hpl : ¬ (o.getD k 0 < 0 ∨ (xs.length : Int) ≤ o.getD k 0) := by omega
        rcases Nat.eq_zero_or_pos k with rfl | hk0
        · repeat' (first | refine zP ?_ | refine zA ?_ | (refine zM ?_; intro _ _) | refine zX ?_ | (refine zC ?_; intro _ _ _ _) | (refine zS ?_; intro _ _) | refine zO ?_ | (apply Ws <;> intro hg))
          exact Ends.loop (1, 0) (by simp only; omega) (by repeat' (first | exact .nil | refine .cons rfl ?_)) rfl ⟨rfl, by simp only; omega, .inr ⟨rfl, h2, firstE_succ h3 (by unfold errP; rw [if_neg hpl, if_neg (by omega)])⟩⟩
        · obtain ⟨j, rfl⟩ : ∃ j, k = j + 1 := ⟨k - 1, by omega⟩
          have e1 : j + 1 - 1 = j := by omega
          repeat' (first | refine zP ?_ | refine zA ?_ | (refine zM ?_; intro _ _) | refine zX ?_ | (refine zC ?_; intro _ _ _ _) | (refine zS ?_; intro _ _) | refine zO ?_ | (apply Ws <;> intro hg))
          by_cases hle : o.getD (j + 1) 0 ≤ o.getD (j + 1 - 1) 0
          · have hpe : errP xs.length o (j + 1) = 7 := by unfold errP; rw [if_neg hpl, if_pos ⟨by omega, hle⟩]
            repeat' (first | refine zP ?_ | refine zA ?_ | (refine zM ?_; intro _ _) | refine zX ?_ | (refine zC ?_; intro _ _ _ _) | (refine zS ?_; intro _ _) | refine zO ?_ | (apply Ws <;> intro hg))
            exact Ends.loop (j + 1 + 1, 7) (by simp only; omega) (by repeat' (first | exact .nil | refine .cons rfl ?_)) rfl ⟨rfl, by simp only; omega, .inl ⟨(hbad (by decide) hpe).symm, by simp⟩⟩
          · repeat' (first | refine zP ?_ | refine zA ?_ | (refine zM ?_; intro _ _) | refine zX ?_ | (refine zC ?_; intro _ _ _ _) | (refine zS ?_; intro _ _) | refine zO ?_ | (apply Ws <;> intro hg))
            exact Ends.loop (j + 1 + 1, 0) (by simp only; omega) (by repeat' (first | exact .nil | refine .cons rfl ?_)) rfl ⟨rfl, by simp only; omega, .inr ⟨rfl, h2, firstE_succ h3 (by unfold errP; rw [if_neg hpl, if_neg (fun h => hle h.2)])⟩⟩
      · have hpe : errP xs.length o k = 2 := by unfold errP; rw [if_pos (by omega)]
        repeat' (first | refine zP ?_ | refine zA ?_ | (refine zM ?_; intro _ _) | refine zX ?_ | (refine zC ?_; intro _ _ _ _) | (refine zS ?_; intro _ _) | refine zO ?_ | (apply Ws <;> intro hg))
        exact Ends.loop (k + 1, 2) (by simp only; omega) (by repeat' (first | exact .nil | refine .cons rfl ?_)) rfl ⟨rfl, by simp only; omega, .inl ⟨(hbad (by decide) hpe).symm, by simp⟩⟩
    · have hkl : k = o.length := by omega
      subst hkl
      repeat' (first | refine zP ?_ | refine zA ?_ | (refine zM ?_; intro _ _) | refine zX ?_ | (refine zC ?_; intro _ _ _ _) | (refine zS ?_; intro _ _) | refine zO ?_ | (apply Ws <;> intro hg))
      exact Ends.ret1 rfl ⟨rfl, by rw [hE, h3]⟩
theorem rGuards_fs (hH : hasH M n0 H) {xs o : List Int} (hS : Sl M 1 v (ints xs)) (hl : xs.length ≤ 100000) (hU : Sl M 1 w (ints o)) (ho : o.length ≤ 100000) :
    FS C 15 [v, w] H (fun e H' => e = .int .i64 (errG xs o) ∧ ∃ n', n0 ≤ n' ∧ hasH M n' H') := by
  have hv := hS.one_
  have hw := hU.one_
  refine FS.intro (pf := pf15) rfl rfl rfl ?_
  repeat' (first | refine zP ?_ | refine zA ?_ | (refine zM ?_; intro _ _) | refine zX ?_ | (refine zC ?_; intro _ _ _ _) | (refine zS ?_; intro _ _) | (apply Ws <;> intro hg))
  refine WR.call (by first | exact gN | exact gS rfl) rfl rfl (listed_fs hH hS hl hU ho) ?_
  rintro _ H1 ⟨rfl, rfl⟩
  by_cases h0 : errL xs o = 0
  · obtain ⟨hx, l, rfl, hla⟩ := errL_zero.1 h0
    have h10 := hx.most
    have hll := hla.len
    have hE : errG xs (IL l) = if grd xs l = true then 0 else 14 := by unfold errG; rw [if_neg (by omega), toNat_IL]
    rw [← nodes_IL] at hU
    rw [h0]
    repeat' (first | refine zP ?_ | refine zA ?_ | (refine zM ?_; intro _ _) | refine zX ?_ | (refine zC ?_; intro _ _ _ _) | (refine zS ?_; intro _ _) | refine zO ?_ | (apply Ws <;> intro hg))
    refine WR.call (by first | exact gN | exact gS rfl) rfl rfl (rguards_fs hH hS (by omega) hU hla.lt (by omega)) ?_
    rintro _ H2 ⟨rfl, n2, hn2, hH2⟩
    cases hgr : grd xs l with
    | true =>
      rw [if_pos hgr] at hE
      repeat' (first | refine zP ?_ | refine zA ?_ | (refine zM ?_; intro _ _) | refine zX ?_ | (refine zC ?_; intro _ _ _ _) | (refine zS ?_; intro _ _) | refine zO ?_ | (apply Ws <;> intro hg))
      exact Ends.ret1 rfl ⟨by rw [hE], n2, hn2, hH2⟩
    | false =>
      rw [if_neg (by rw [hgr]; decide)] at hE
      repeat' (first | refine zP ?_ | refine zA ?_ | (refine zM ?_; intro _ _) | refine zX ?_ | (refine zC ?_; intro _ _ _ _) | (refine zS ?_; intro _ _) | refine zO ?_ | (apply Ws <;> intro hg))
      exact Ends.ret1 rfl ⟨by rw [hE], n2, hn2, hH2⟩
  · repeat' (first | refine zP ?_ | refine zA ?_ | (refine zM ?_; intro _ _) | refine zX ?_ | (refine zC ?_; intro _ _ _ _) | (refine zS ?_; intro _ _) | refine zO ?_ | (apply Ws <;> intro hg))
    exact Ends.ret1 rfl ⟨by unfold errG; rw [if_pos h0], n0, Nat.le_refl _, hH⟩
theorem rProves_fs (hH : hasH M n0 H) {xs o : List Int} (hS : Sl M 1 v (ints xs)) (hl : xs.length ≤ 100000) (hU : Sl M 1 w (ints o)) (ho : o.length ≤ 100000) :
    FS C 17 [v, w] H (fun e H' => e = .int .i64 (errA xs o) ∧ ∃ n', n0 ≤ n' ∧ hasH M n' H') := by
  have hv := hS.one_
  have hw := hU.one_
  refine FS.intro (pf := pf17) rfl rfl rfl ?_
  repeat' (first | refine zP ?_ | refine zA ?_ | (refine zM ?_; intro _ _) | refine zX ?_ | (refine zC ?_; intro _ _ _ _) | (refine zS ?_; intro _ _) | (apply Ws <;> intro hg))
  refine WR.call (by first | exact gN | exact gS rfl) rfl rfl (listed_fs hH hS hl hU ho) ?_
  rintro _ H1 ⟨rfl, rfl⟩
  by_cases h0 : errL xs o = 0
  · obtain ⟨hx, l, rfl, hla⟩ := errL_zero.1 h0
    have h10 := hx.most
    have hll := hla.len
    have hE : errA xs (IL l) = if apt xs l = true then 0 else 14 := by unfold errA; rw [if_neg (by omega), toNat_IL]
    rw [← nodes_IL] at hU
    rw [h0]
    repeat' (first | refine zP ?_ | refine zA ?_ | (refine zM ?_; intro _ _) | refine zX ?_ | (refine zC ?_; intro _ _ _ _) | (refine zS ?_; intro _ _) | refine zO ?_ | (apply Ws <;> intro hg))
    refine WR.call (by first | exact gN | exact gS rfl) rfl rfl (rapart_fs hH hS (by omega) hU hla.lt (by omega)) ?_
    rintro _ H2 ⟨rfl, n2, hn2, hH2⟩
    cases hgr : apt xs l with
    | true =>
      rw [if_pos hgr] at hE
      repeat' (first | refine zP ?_ | refine zA ?_ | (refine zM ?_; intro _ _) | refine zX ?_ | (refine zC ?_; intro _ _ _ _) | (refine zS ?_; intro _ _) | refine zO ?_ | (apply Ws <;> intro hg))
      exact Ends.ret1 rfl ⟨by rw [hE], n2, hn2, hH2⟩
    | false =>
      rw [if_neg (by rw [hgr]; decide)] at hE
      repeat' (first | refine zP ?_ | refine zA ?_ | (refine zM ?_; intro _ _) | refine zX ?_ | (refine zC ?_; intro _ _ _ _) | (refine zS ?_; intro _ _) | refine zO ?_ | (apply Ws <;> intro hg))
      exact Ends.ret1 rfl ⟨by rw [hE], n2, hn2, hH2⟩
  · repeat' (first | refine zP ?_ | refine zA ?_ | (refine zM ?_; intro _ _) | refine zX ?_ | (refine zC ?_; intro _ _ _ _) | (refine zS ?_; intro _ _) | refine zO ?_ | (apply Ws <;> intro hg))
    exact Ends.ret1 rfl ⟨by unfold errA; rw [if_pos h0], n0, Nat.le_refl _, hH⟩
theorem rHand_fs (hH : hasH M n0 H) {xs : List Int} (hS : Sl M 1 v (ints xs)) (hl : xs.length ≤ 100000) (p : Int) :
    FS C 10 [v, .int .i64 p] H (fun e H' => ∃ u M2 n', e = .tuple #[u, .int .i64 (errH xs p)] ∧ Sl (M2 ++ M) 1 u (nodes (if errH xs p = 0 then hndL xs p.toNat else [])) ∧ n0 ≤ n' ∧ hasH (M2 ++ M) n' H') := by
  have hv := hS.one_
  refine FS.intro (pf := pf10) rfl rfl rfl ?_
  repeat' (first | refine zP ?_ | refine zA ?_ | (refine zM ?_; intro _ _) | refine zX ?_ | (refine zC ?_; intro _ _ _ _) | (refine zS ?_; intro _ _) | (apply Ws <;> intro hg))
  refine WR.call (by first | exact gN | exact gS rfl) rfl rfl (rCheck_fs hH hS hl) ?_
  rintro _ H1 ⟨rfl, rfl⟩
  by_cases h0 : errS xs = 0
  · have hx := errS_zero.1 h0
    have h10 := hx.most
    rw [h0]
    repeat' (first | refine zP ?_ | refine zA ?_ | (refine zM ?_; intro _ _) | refine zX ?_ | (refine zC ?_; intro _ _ _ _) | (refine zS ?_; intro _ _) | refine zO ?_ | (apply Ws <;> intro hg))
    refine WR.call (by first | exact gN | exact gS rfl) rfl rfl (in_fs _ _ _ _) ?_
    rintro _ H2 ⟨rfl, rfl⟩
    by_cases hp : 0 ≤ p ∧ p ≤ (xs.length : Int) - 1
    · have hE : errH xs p = 0 := by unfold errH; rw [if_neg (by omega), if_pos (by omega)]
      obtain ⟨q, rfl⟩ : ∃ q : Nat, p = (q : Int) := ⟨p.toNat, by omega⟩
      have hq : q < xs.length := by omega
      repeat' (first | refine zP ?_ | refine zA ?_ | (refine zM ?_; intro _ _) | refine zX ?_ | (refine zC ?_; intro _ _ _ _) | (refine zS ?_; intro _ _) | refine zO ?_ | (apply Ws <;> intro hg))
      refine WR.call (by first | exact gN | exact gS rfl) rfl rfl (hand_fs hH hS (by omega) hq) ?_
      rintro e3 H3 ⟨Mx, n3, hO, hn3, hH3⟩
      repeat' (first | refine zP ?_ | refine zA ?_ | (refine zM ?_; intro _ _) | refine zX ?_ | (refine zC ?_; intro _ _ _ _) | (refine zS ?_; intro _ _) | (apply Ws <;> intro hg))
      refine Ends.ret2 rfl rfl ⟨_, Mx, n3, by rw [hE], ?_, by omega, hH3⟩
      rw [hE, if_pos rfl, Int.toNat_natCast]; exact hO.sl M
    · have hE : errH xs p = 2 := by unfold errH; rw [if_neg (by omega), if_neg (by omega)]
      repeat' (first | refine zP ?_ | refine zA ?_ | (refine zM ?_; intro _ _) | refine zX ?_ | (refine zC ?_; intro _ _ _ _) | (refine zS ?_; intro _ _) | refine zO ?_ | (apply Ws <;> intro hg))
      exact Ends.ret2 rfl rfl ⟨_, [], n0, by rw [hE], by rw [hE, if_neg (by decide)]; exact .nil 0, Nat.le_refl _, hH⟩
  · have hE : errH xs p = errS xs := by unfold errH; rw [if_pos h0]
    repeat' (first | refine zP ?_ | refine zA ?_ | (refine zM ?_; intro _ _) | refine zX ?_ | (refine zC ?_; intro _ _ _ _) | (refine zS ?_; intro _ _) | refine zO ?_ | (apply Ws <;> intro hg))
    exact Ends.ret2 rfl rfl ⟨_, [], n0, by rw [hE], by rw [hE, if_neg h0]; exact .nil 0, Nat.le_refl _, hH⟩
theorem hndL_le (xs : List Int) (p : Int) : (if errH xs p = 0 then hndL xs p.toNat else []).length ≤ 1000 := by
  by_cases h : errH xs p = 0
  · rw [if_pos h]
    unfold errH at h
    by_cases h0 : errS xs = 0
    · have := (errS_zero.1 h0).most
      have := hndL_len xs p.toNat
      omega
    · rw [if_pos h0] at h; exact absurd h h0
  · rw [if_neg h]; simp
set_option maxHeartbeats 2000000 in
theorem PostHands_fs (hH : hasH M n0 H) {xs o : List Int} (hS : Sl M 1 v (ints xs)) (p : Int) (hU : Sl M 1 w (ints o)) :
    FS C 3 [v, .int .i64 p, w] H (fun e H' => e = .bool true) := by
  have hv := hS.one_
  have hw := hU.one_
  have hfin : ∀ {H' : Heap}, FS C 8 [] H' (fun e H'' => e = .bool true ∧ H'' = H') := fun {H'} => FS.works ⟨rfl, rfl⟩
  refine FS.intro (pf := pf3) rfl rfl rfl ?_
  by_cases hbig : 40 < xs.length
  · repeat' (first | refine zP ?_ | refine zA ?_ | (refine zM ?_; intro _ _) | refine zX ?_ | (refine zC ?_; intro _ _ _ _) | (refine zS ?_; intro _ _) | refine zO ?_ | (apply Ws <;> intro hg))
    refine WR.call (by first | exact gN | exact gS rfl) rfl rfl hfin ?_
    rintro _ _ ⟨rfl, rfl⟩
    repeat' (first | refine zP ?_ | refine zA ?_ | (refine zM ?_; intro _ _) | refine zX ?_ | (refine zC ?_; intro _ _ _ _) | (refine zS ?_; intro _ _) | (apply Ws <;> intro hg))
    exact Ends.ret1 rfl rfl
  by_cases hbig2 : 40 < o.length
  · repeat' (first | refine zP ?_ | refine zA ?_ | (refine zM ?_; intro _ _) | refine zX ?_ | (refine zC ?_; intro _ _ _ _) | (refine zS ?_; intro _ _) | refine zO ?_ | (apply Ws <;> intro hg))
    refine WR.call (by first | exact gN | exact gS rfl) rfl rfl hfin ?_
    rintro _ _ ⟨rfl, rfl⟩
    repeat' (first | refine zP ?_ | refine zA ?_ | (refine zM ?_; intro _ _) | refine zX ?_ | (refine zC ?_; intro _ _ _ _) | (refine zS ?_; intro _ _) | (apply Ws <;> intro hg))
    exact Ends.ret1 rfl rfl
  repeat' (first | refine zP ?_ | refine zA ?_ | (refine zM ?_; intro _ _) | refine zX ?_ | (refine zC ?_; intro _ _ _ _) | (refine zS ?_; intro _ _) | refine zO ?_ | (apply Ws <;> intro hg))
  refine WR.call (by first | exact gN | exact gS rfl) rfl rfl (Hand_fs hH hS (by omega) p) ?_
  rintro _ H1 ⟨u1, M1, n1, rfl, hS1, hn1, hH1⟩
  repeat' (first | refine zP ?_ | refine zA ?_ | (refine zM ?_; intro _ _) | refine zX ?_ | (refine zC ?_; intro _ _ _ _) | (refine zS ?_; intro _ _) | (apply Ws <;> intro hg))
  have hSx := hS.mono fun q hq => List.mem_append_right M1 hq
  refine WR.call (by first | exact gN | exact gS rfl) rfl rfl (rHand_fs hH1 hSx (by omega) p) ?_
  rintro _ H2 ⟨u2, M2, n2, rfl, hS2, hn2, hH2⟩
  have hle := hndL_le xs p
  have hSx2 := hSx.mono fun q hq => List.mem_append_right M2 hq
  have hUx2 := (hU.mono fun q hq => List.mem_append_right M1 hq).mono fun q hq => List.mem_append_right M2 hq
  replace hS1 := hS1.mono fun q hq => List.mem_append_right M2 hq
  repeat' (first | refine zP ?_ | refine zA ?_ | (refine zM ?_; intro _ _) | refine zX ?_ | (refine zC ?_; intro _ _ _ _) | (refine zS ?_; intro _ _) | (apply Ws <;> intro hg))
  refine WR.call (by first | exact gN | exact gS rfl) rfl rfl (same_fs hH2 hS1 hS2 (by omega) (by omega)) ?_
  rintro _ H3 ⟨rfl, rfl⟩
  clear hH hH1
  rw [decide_eq_true rfl]
  repeat' (first | refine zP ?_ | refine zA ?_ | (refine zM ?_; intro _ _) | refine zX ?_ | (refine zC ?_; intro _ _ _ _) | (refine zS ?_; intro _ _) | refine zO ?_ | (apply Ws <;> intro hg))
  refine WR.call (by first | exact gN | exact gS rfl) rfl rfl (Check_fs hH2 hSx2 (by omega)) ?_
  rintro _ H4 ⟨rfl, rfl⟩
  repeat' (first | refine zP ?_ | refine zA ?_ | (refine zM ?_; intro _ _) | refine zX ?_ | (refine zC ?_; intro _ _ _ _) | (refine zS ?_; intro _ _) | refine zO ?_ | (apply Ws <;> intro hg))
  refine WR.call (by first | exact gN | exact gS rfl) rfl rfl (rCheck_fs hH2 hSx2 (by omega)) ?_
  rintro _ H5 ⟨rfl, rfl⟩
  repeat' (first | refine zP ?_ | refine zA ?_ | (refine zM ?_; intro _ _) | refine zX ?_ | (refine zC ?_; intro _ _ _ _) | (refine zS ?_; intro _ _) | refine zO ?_ | (apply Ws <;> intro hg))
  refine WR.call (by first | exact gN | exact gS rfl) rfl rfl (Guards_fs hH2 hSx2 (by omega) hUx2 (by omega)) ?_
  rintro _ H6 ⟨rfl, n6, hn6, hH6⟩
  repeat' (first | refine zP ?_ | refine zA ?_ | (refine zM ?_; intro _ _) | refine zX ?_ | (refine zC ?_; intro _ _ _ _) | (refine zS ?_; intro _ _) | refine zO ?_ | (apply Ws <;> intro hg))
  refine WR.call (by first | exact gN | exact gS rfl) rfl rfl (rGuards_fs hH6 hSx2 (by omega) hUx2 (by omega)) ?_
  rintro _ H7 ⟨rfl, n7, hn7, hH7⟩
  repeat' (first | refine zP ?_ | refine zA ?_ | (refine zM ?_; intro _ _) | refine zX ?_ | (refine zC ?_; intro _ _ _ _) | (refine zS ?_; intro _ _) | refine zO ?_ | (apply Ws <;> intro hg))
  refine WR.call (by first | exact gN | exact gS rfl) rfl rfl (Proves_fs hH7 hSx2 (by omega) hUx2 (by omega)) ?_
  rintro _ H8 ⟨rfl, n8, hn8, hH8⟩
  repeat' (first | refine zP ?_ | refine zA ?_ | (refine zM ?_; intro _ _) | refine zX ?_ | (refine zC ?_; intro _ _ _ _) | (refine zS ?_; intro _ _) | refine zO ?_ | (apply Ws <;> intro hg))
  refine WR.call (by first | exact gN | exact gS rfl) rfl rfl (rProves_fs hH8 hSx2 (by omega) hUx2 (by omega)) ?_
  rintro _ H9 ⟨rfl, n9, hn9, hH9⟩
  repeat' (first | refine zP ?_ | refine zA ?_ | (refine zM ?_; intro _ _) | refine zX ?_ | (refine zC ?_; intro _ _ _ _) | (refine zS ?_; intro _ _) | refine zO ?_ | (apply Ws <;> intro hg))
  refine WR.call (by first | exact gN | exact gS rfl) rfl rfl hfin ?_
  rintro _ _ ⟨rfl, rfl⟩
  repeat' (first | refine zP ?_ | refine zA ?_ | (refine zM ?_; intro _ _) | refine zX ?_ | (refine zC ?_; intro _ _ _ _) | (refine zS ?_; intro _ _) | refine zO ?_ | (apply Ws <;> intro hg))
  exact Ends.ret1 rfl rfl
end
end Go.Proofs.Ytcfffhkabhmkmaa.Ps
