/- Texts of the law, joined. -/
import Derived.Test.YtcfffhkabhmkmaaDoorJ3
/- Places in so many lists; what the package's other functions return. -/
namespace Go.Proofs.YtcfffhkabhmkmaaDoor.Ps
open Go Go.Abs Go.Mth
set_option linter.unusedVariables false
set_option linter.unusedSimpArgs false
def plcL (s k : Nat) : List Nat := (List.range k).filter s.testBit
theorem plcL_len (s k : Nat) : (plcL s k).length ≤ k := by
  have := List.length_filter_le s.testBit (List.range k)
  simpa [plcL] using this
theorem nodes_snoc (l : List Nat) (x : Nat) : nodes (l ++ [x]) = nodes l ++ [.int .i64 (x : Int)] := by simp [nodes]
attribute [local irreducible] gOK WS WC WR WD Ends FS YS OpV seqK blockK loopK midK retK rdK asgK rangeEnd sat Cell
section
variable {M : HL} {n0 : Nat} {H : Heap} {v w : Value}
theorem grdL_asc {xs : List Int} : ∀ z ∈ grdL xs, AscN xs.length z := fun z hz => mem_allA.1 (List.mem_filter.1 hz).1
theorem aptL_asc {xs : List Int} : ∀ z ∈ aptL xs, AscN xs.length z := fun z hz => mem_allA.1 (List.mem_filter.1 hz).1
theorem Apart_fs (hH : hasH M n0 H) {xs : List Int} (hS : Sl M 1 v (ints xs)) (hl : xs.length ≤ 100000) :
    FS C 15 [v] H (fun e H' => ∃ u M2 n', e = .tuple #[u, .int .i64 (errS xs)] ∧ Sl (M2 ++ M) 1 u (nodes (if errS xs = 0 then (aptB xs).getD 0 [] else [])) ∧ n0 ≤ n' ∧ hasH (M2 ++ M) n' H') := by
  refine FS.intro (pf := pf15) rfl rfl rfl ?_
  repeat' (first | refine zP ?_ | refine zA ?_ | (refine zM ?_; intro _ _) | refine zX ?_ | (refine zC ?_; intro _ _ _ _) | (refine zS ?_; intro _ _) | (apply Ws <;> intro hg))
  refine WR.call (by first | exact gN | exact gS rfl) rfl rfl (Check_fs hH hS hl) ?_
  rintro _ H1 ⟨rfl, rfl⟩
  repeat' (first | refine zP ?_ | refine zA ?_ | (refine zM ?_; intro _ _) | refine zX ?_ | (refine zC ?_; intro _ _ _ _) | (refine zS ?_; intro _ _) | (apply Ws <;> intro hg))
  refine WC.condP rfl (fun h0 => ?_) (fun h0 => ?_)
  · repeat' (first | refine zP ?_ | refine zA ?_ | (refine zM ?_; intro _ _) | refine zX ?_ | (refine zC ?_; intro _ _ _ _) | (refine zS ?_; intro _ _) | (apply Ws <;> intro hg))
    exact Ends.ret2 rfl rfl ⟨_, [], n0, rfl, by rw [if_neg h0]; exact .nil 0, Nat.le_refl _, hH⟩
  · have h00 : errS xs = 0 := by omega
    have hx := errS_zero.1 h00
    repeat' (first | refine zP ?_ | refine zA ?_ | (refine zM ?_; intro _ _) | refine zX ?_ | (refine zC ?_; intro _ _ _ _) | (refine zS ?_; intro _ _) | (apply Ws <;> intro hg))
    refine WR.call (by first | exact gN | exact gS rfl) rfl rfl (byDistance_fs hH hS hx) ?_
    rintro _ H2 ⟨hv, M2, n2, rfl, hV, hn2, hH2⟩
    refine WR.call (by first | exact gN | exact gS rfl) rfl rfl (best_fs (B := M2) hx.one hx.most hH2 (fun p hp => List.mem_append_left _ hp) (good_apt hx hV) (cost_neg _ _) (fun x _ => by omega) (allA_few hx.most)) ?_
    rintro e3 H3 ⟨ws, M3, n3, hSe, hR, hn3, hH3⟩
    have hne := List.length_pos_iff.2 (aptB_ne xs)
    have hwl := hR.1
    have hR0 := hR.2 0 hne
    have hws : 0 < ws.length := by rw [hwl]; exact hne
    repeat' (first | refine zP ?_ | refine zA ?_ | (refine zM ?_; intro _ _) | refine zX ?_ | (refine zC ?_; intro _ _ _ _) | (refine zS ?_; intro _ _) | (apply Ws <;> intro hg))
    refine Ends.ret2 rfl rfl ⟨_, M3 ++ M2, n3, by rw [h00], ?_, by omega, by rw [List.append_assoc]; exact hH3⟩
    rw [if_pos h00, List.append_assoc]; exact hR0
end
end Go.Proofs.YtcfffhkabhmkmaaDoor.Ps

/- Count, Cheapest, Guards, Proves, Hand. -/
namespace Go.Proofs.YtcfffhkabhmkmaaDoor.Ps
open Go Go.Abs Go.Mth
set_option linter.unusedVariables false
set_option linter.unusedSimpArgs false
def errG (xs o : List Int) : Int := if errL xs o ≠ 0 then errL xs o else if grd xs (o.map Int.toNat) = true then 0 else 14
def errA (xs o : List Int) : Int := if errL xs o ≠ 0 then errL xs o else if apt xs (o.map Int.toNat) = true then 0 else 14
theorem toNat_IL (l : List Nat) : (IL l).map Int.toNat = l := by
  refine List.ext_getElem (by simp [IL]) fun i h1 h2 => by simp [IL]
attribute [local irreducible] gOK WS WC WR WD Ends FS YS OpV seqK blockK loopK midK retK rdK asgK rangeEnd sat Cell
section
variable {M : HL} {n0 : Nat} {H : Heap} {v w : Value}
theorem Guards_fs (hH : hasH M n0 H) {xs o : List Int} (hS : Sl M 1 v (ints xs)) (hl : xs.length ≤ 100000) (hU : Sl M 1 w (ints o)) (ho : o.length ≤ 100000) :
    FS C 17 [v, w] H (fun e H' => e = .int .i64 (errG xs o) ∧ ∃ n', n0 ≤ n' ∧ hasH M n' H') := by
  refine FS.intro (pf := pf17) rfl rfl rfl ?_
  repeat' (first | refine zP ?_ | refine zA ?_ | (refine zM ?_; intro _ _) | refine zX ?_ | (refine zC ?_; intro _ _ _ _) | (refine zS ?_; intro _ _) | (apply Ws <;> intro hg))
  refine WR.call (by first | exact gN | exact gS rfl) rfl rfl (checkPlaces_fs hH hS hl hU ho) ?_
  rintro _ H1 ⟨rfl, rfl⟩
  repeat' (first | refine zP ?_ | refine zA ?_ | (refine zM ?_; intro _ _) | refine zX ?_ | (refine zC ?_; intro _ _ _ _) | (refine zS ?_; intro _ _) | (apply Ws <;> intro hg))
  refine WC.condP rfl (fun h0 => ?_) (fun h0 => ?_)
  · repeat' (first | refine zP ?_ | refine zA ?_ | (refine zM ?_; intro _ _) | refine zX ?_ | (refine zC ?_; intro _ _ _ _) | (refine zS ?_; intro _ _) | (apply Ws <;> intro hg))
    exact Ends.ret1 rfl ⟨by unfold errG; rw [if_pos h0], n0, Nat.le_refl _, hH⟩
  · have h00 : errL xs o = 0 := by omega
    obtain ⟨hx, l, rfl, hla⟩ := errL_zero.1 h00
    have h10 := hx.most
    have hll := hla.len
    have hE : errG xs (IL l) = if grd xs l = true then 0 else 14 := by unfold errG; rw [if_neg h0, toNat_IL]
    repeat' (first | refine zP ?_ | refine zA ?_ | (refine zM ?_; intro _ _) | refine zX ?_ | (refine zC ?_; intro _ _ _ _) | (refine zS ?_; intro _ _) | (apply Ws <;> intro hg))
    refine WR.call (by first | exact gN | exact gS rfl) rfl rfl (handsOf_fs hH hS hx) ?_
    rintro _ H2 ⟨rfl, hH2⟩
    rw [← nodes_IL] at hU
    repeat' (first | refine zP ?_ | refine zA ?_ | (refine zM ?_; intro _ _) | refine zX ?_ | (refine zC ?_; intro _ _ _ _) | (refine zS ?_; intro _ _) | (apply Ws <;> intro hg))
    refine WR.call (by first | exact gN | exact gS rfl) rfl rfl (guarded_fs hH2 hx hnd_row hU.cons hla.lt (by omega)) ?_
    rintro _ _ ⟨rfl, rfl⟩
    cases hgr : grd xs l with
    | true =>
      rw [if_pos hgr] at hE
      repeat' (first | refine zP ?_ | refine zA ?_ | (refine zM ?_; intro _ _) | refine zX ?_ | (refine zC ?_; intro _ _ _ _) | (refine zS ?_; intro _ _) | refine zO ?_ | (apply Ws <;> intro hg))
      exact Ends.ret1 rfl ⟨by rw [hE], n0 + 1, by omega, hH2.tail⟩
    | false =>
      rw [if_neg (by rw [hgr]; decide)] at hE
      repeat' (first | refine zP ?_ | refine zA ?_ | (refine zM ?_; intro _ _) | refine zX ?_ | (refine zC ?_; intro _ _ _ _) | (refine zS ?_; intro _ _) | refine zO ?_ | (apply Ws <;> intro hg))
      exact Ends.ret1 rfl ⟨by rw [hE], n0 + 1, by omega, hH2.tail⟩
theorem Proves_fs (hH : hasH M n0 H) {xs o : List Int} (hS : Sl M 1 v (ints xs)) (hl : xs.length ≤ 100000) (hU : Sl M 1 w (ints o)) (ho : o.length ≤ 100000) :
    FS C 18 [v, w] H (fun e H' => e = .int .i64 (errA xs o) ∧ ∃ n', n0 ≤ n' ∧ hasH M n' H') := by
  refine FS.intro (pf := pf18) rfl rfl rfl ?_
  repeat' (first | refine zP ?_ | refine zA ?_ | (refine zM ?_; intro _ _) | refine zX ?_ | (refine zC ?_; intro _ _ _ _) | (refine zS ?_; intro _ _) | (apply Ws <;> intro hg))
  refine WR.call (by first | exact gN | exact gS rfl) rfl rfl (checkPlaces_fs hH hS hl hU ho) ?_
  rintro _ H1 ⟨rfl, rfl⟩
  repeat' (first | refine zP ?_ | refine zA ?_ | (refine zM ?_; intro _ _) | refine zX ?_ | (refine zC ?_; intro _ _ _ _) | (refine zS ?_; intro _ _) | (apply Ws <;> intro hg))
  refine WC.condP rfl (fun h0 => ?_) (fun h0 => ?_)
  · repeat' (first | refine zP ?_ | refine zA ?_ | (refine zM ?_; intro _ _) | refine zX ?_ | (refine zC ?_; intro _ _ _ _) | (refine zS ?_; intro _ _) | (apply Ws <;> intro hg))
    exact Ends.ret1 rfl ⟨by unfold errA; rw [if_pos h0], n0, Nat.le_refl _, hH⟩
  · have h00 : errL xs o = 0 := by omega
    obtain ⟨hx, l, rfl, hla⟩ := errL_zero.1 h00
    have h10 := hx.most
    have hll := hla.len
    have hE : errA xs (IL l) = if apt xs l = true then 0 else 14 := by unfold errA; rw [if_neg h0, toNat_IL]
    repeat' (first | refine zP ?_ | refine zA ?_ | (refine zM ?_; intro _ _) | refine zX ?_ | (refine zC ?_; intro _ _ _ _) | (refine zS ?_; intro _ _) | (apply Ws <;> intro hg))
    refine WR.call (by first | exact gN | exact gS rfl) rfl rfl (handsOf_fs hH hS hx) ?_
    rintro _ H2 ⟨rfl, hH2⟩
    rw [← nodes_IL] at hU
    repeat' (first | refine zP ?_ | refine zA ?_ | (refine zM ?_; intro _ _) | refine zX ?_ | (refine zC ?_; intro _ _ _ _) | (refine zS ?_; intro _ _) | (apply Ws <;> intro hg))
    refine WR.call (by first | exact gN | exact gS rfl) rfl rfl (apart_fs hH2 hx hnd_row hU.cons hla.lt (by omega)) ?_
    rintro _ _ ⟨rfl, rfl⟩
    cases hgr : apt xs l with
    | true =>
      rw [if_pos hgr] at hE
      repeat' (first | refine zP ?_ | refine zA ?_ | (refine zM ?_; intro _ _) | refine zX ?_ | (refine zC ?_; intro _ _ _ _) | (refine zS ?_; intro _ _) | refine zO ?_ | (apply Ws <;> intro hg))
      exact Ends.ret1 rfl ⟨by rw [hE], n0 + 1, by omega, hH2.tail⟩
    | false =>
      rw [if_neg (by rw [hgr]; decide)] at hE
      repeat' (first | refine zP ?_ | refine zA ?_ | (refine zM ?_; intro _ _) | refine zX ?_ | (refine zC ?_; intro _ _ _ _) | (refine zS ?_; intro _ _) | refine zO ?_ | (apply Ws <;> intro hg))
      exact Ends.ret1 rfl ⟨by rw [hE], n0 + 1, by omega, hH2.tail⟩
end
end Go.Proofs.YtcfffhkabhmkmaaDoor.Ps

/- Shores by numbers. -/
namespace Go.Proofs.YtcfffhkabhmkmaaDoor.Ps
open Go Go.Abs Go.Mth
set_option linter.unusedVariables false
set_option linter.unusedSimpArgs false
theorem u8k : C.c.P.underlying 5 = some (.int .u8) := by kernel_rfl
theorem i64k : C.c.P.underlying 3 = some (.int .i64) := by kernel_rfl
def mkS (by_ : List Nat) (n : Nat) : List Int := (List.range n).map fun i => if i = 0 then -1 else ((by_.getD i 0 % i : Nat) : Int)
theorem mkS_len (by_ : List Nat) (n : Nat) : (mkS by_ n).length = n := by simp [mkS]
theorem mkS_get {by_ : List Nat} {n i : Nat} (h : i < n) : (mkS by_ n).getD i 0 = if i = 0 then -1 else ((by_.getD i 0 % i : Nat) : Int) := by
  rw [getD_eq (by rw [mkS_len]; exact h)]; simp [mkS]
theorem mkS_succ (by_ : List Nat) (n : Nat) : mkS by_ (n + 1) = mkS by_ n ++ [if n = 0 then -1 else ((by_.getD n 0 % n : Nat) : Int)] := by simp [mkS, List.range_succ]
theorem mkS_ok (by_ : List Nat) {n : Nat} (h1 : 1 ≤ n) (h10 : n ≤ 10) : OKS (mkS by_ n) where
  one := by rw [mkS_len]; exact h1
  most := by rw [mkS_len]; exact h10
  root := by rw [mkS_get (by omega), if_pos rfl]
  par k hk hl := by
    rw [mkS_len] at hl
    rw [mkS_get hl, if_neg (by omega)]
    have := Nat.mod_lt (by_.getD k 0) (show 0 < k by omega)
    omega
theorem hm_grow {xs : List Int} (h : OKS xs) {k p : Nat} (hk1 : 1 ≤ k) (hk : k < xs.length) (hp : xs.getD k 0 = (p : Int)) (hpk : p < k) {l : List Nat} (hl : l.length = k) (hv : ∀ i, i < k → l.getD i 0 = hmTo xs k i) :
    ∀ i, i < k + 1 → ((l ++ [2 ^ k ||| 2 ^ p]).set p ((l ++ [2 ^ k ||| 2 ^ p]).getD p 0 ||| 2 ^ k)).getD i 0 = hmTo xs (k + 1) i := by
  obtain ⟨L, hL⟩ : ∃ L, l ++ List.replicate (xs.length - k) 0 = L := ⟨_, rfl⟩
  have hLl : L.length = xs.length := by rw [← hL]; simp [hl]; omega
  have hLv : ∀ i, i < xs.length → L.getD i 0 = hmTo xs k i := fun i hi => by
    by_cases e : i < k
    · rw [← hL, getD_app_l (by omega)]; exact hv i e
    · rw [hm_zero (by omega), ← hL, List.getD_eq_getElem?_getD, List.getElem?_append_right (by omega), List.getElem?_replicate]
      split <;> rfl
  have hs := hm_step h hk hp hpk hLl hLv
  have hLk : L.getD k 0 = 0 := by rw [hLv k hk, hm_zero (Nat.le_refl _)]
  intro i hi
  rw [← hs i (by omega)]
  have n1 : (L.set k (L.getD k 0 ||| 2 ^ k)).length = xs.length := by simp [hLl]
  have n2 : ((L.set k (L.getD k 0 ||| 2 ^ k)).set k ((L.set k (L.getD k 0 ||| 2 ^ k)).getD k 0 ||| 2 ^ p)).length = xs.length := by simp [hLl]
  have hsn : (l ++ [2 ^ k ||| 2 ^ p]).length = k + 1 := by simp [hl]
  rw [getD_set' (by omega), getD_set' (by omega)]
  have hlp : (l ++ [2 ^ k ||| 2 ^ p]).getD p 0 = L.getD p 0 := by rw [getD_app_l (by omega), hv p hpk, hLv p (by omega)]
  rw [getD_set' (by omega), if_neg (show ¬ p = k by omega), getD_set' (by omega), if_neg (show ¬ p = k by omega), hlp]
  by_cases e1 : i = p
  · rw [if_pos e1, if_pos e1]
  · rw [if_neg e1, if_neg e1, getD_set' (by omega)]
    by_cases e2 : i = k
    · rw [if_pos e2, getD_set' (by omega), if_pos rfl, hLk, Nat.zero_or, e2, ← hl, snoc_at]
    · rw [if_neg e2, getD_set' (by omega), if_neg e2, getD_app_l (by omega), hv i (by omega), hLv i (by omega)]
structure KH where
  k : Nat
  vs : Value
  vh : Value
  hs : List Nat
  MS : HL
  MH : HL
  n : Nat
theorem lt64 {a : Nat} (h : a < 1024) : a < capK .u64 := Nat.lt_of_lt_of_le h (by decide)
attribute [local irreducible] gOK WS WC WR WD Ends FS YS OpV seqK blockK loopK midK retK rdK asgK rangeEnd sat Cell
section
variable {M : HL} {n0 : Nat} {H : Heap} {v w : Value}
set_option maxHeartbeats 2000000 in
theorem made_fs (hH : hasH M n0 H) {x : Nat} {by_ : List Nat} (hx : x ≤ 255) (hb : ∀ y ∈ by_, y ≤ 255) (hbl : by_.length = 10) {most : Nat} (h1 : 1 ≤ most) (h10 : most ≤ 10) :
    FS C 8 [.agg (numsK .u8 (x :: by_)).toArray, .int .i64 (most : Int)] H (fun e H' => ∃ vs vh MS MH n', e = .tuple #[vs, vh] ∧ Own 3 1 vs (ints (mkS by_ (1 + x % most))) MS ∧ Own 29 1 vh (numsK .u64 (hsL (mkS by_ (1 + x % most)))) MH ∧ n0 ≤ n' ∧ hasH (MS ++ (MH ++ M)) n' H') := by
  have hone : (numsK .u8 (x :: by_)).all one = true := numsK_one _
  have hsl : (numsK .u8 (x :: by_)).length = 11 := by simp [numsK, hbl]
  have hg0 : (numsK .u8 (x :: by_))[0]? = some (.int .u8 (x : Int)) := rfl
  refine FS.intro (pf := pf8) rfl rfl rfl ?_
  refine WC.seq ?_
  refine WC.region ?_
  refine WR.boxA (cs := numsK .u8 (x :: by_)) (by first | exact gN | exact gS rfl) rfl hH rfl hone fun H1 hH1 => ?_
  repeat' (first | refine zP ?_ | refine zA ?_ | (refine zM ?_; intro _ _) | refine zX ?_ | (refine zC ?_; intro _ _ _ _) | (refine zS ?_; intro _ _) | (apply Ws <;> intro hg))
  refine WR.op (by first | exact gN | exact gS rfl) rfl (OpV.conv u8k i64k rfl (c := (x : Int)) (IntWalk.i64_in _ (by omega))) ?_
  have hmod := Nat.mod_lt x (show 0 < most by omega)
  repeat' (first | refine zP ?_ | refine zA ?_ | (refine zM ?_; intro _ _) | refine zX ?_ | (refine zC ?_; intro _ _ _ _) | (refine zS ?_; intro _ _) | (apply Ws <;> intro hg))
  rw [show (x : Int) % (most : Int) = ((x % most : Nat) : Int) by simp]
  obtain ⟨r, hr⟩ : ∃ r, x % most = r := ⟨_, rfl⟩
  rw [hr] at hmod ⊢
  repeat' (first | refine zP ?_ | refine zA ?_ | (refine zM ?_; intro _ _) | refine zX ?_ | (refine zC ?_; intro _ _ _ _) | (refine zS ?_; intro _ _) | (apply Ws <;> intro hg))
  rw [show (1 : Int) + (r : Int) = ((1 + r : Nat) : Int) by omega]
  obtain ⟨n, hn⟩ : ∃ n, 1 + r = n := ⟨_, rfl⟩
  rw [hn]
  have hn10 : 1 ≤ n ∧ n ≤ 10 := by omega
  have hok := mkS_ok by_ hn10.1 hn10.2
  have hlen := mkS_len by_ n
  clear hr hn hmod hH
  refine WR.bldS (by first | exact gN | exact gS rfl) rfl hH1 (vs := [(0, .int .i64 (-1))]) rfl (cs := [.int .i64 (-1)]) (by rfl) rfl fun H2 hH2 => ?_
  refine WR.bldS (by first | exact gN | exact gS rfl) rfl hH2 (vs := [(0, .int .u64 1)]) rfl (cs := [.int .u64 1]) (by rfl) rfl fun H3 hH3 => ?_
  have hH4 : hasH ([(n0 + 1, .inp 3 0 0 [.int .i64 (-1)])] ++ ([(n0 + 1 + 1, .inp 29 0 0 [.int .u64 1])] ++ ((n0, .row 24 0 0 (numsK .u8 (x :: by_))) :: M))) (n0 + 1 + 1 + 1) H3 := (hH3.asInp .here |>.asInp (.there .here)).swap
  have hOs : Own 3 1 (.slice (some ⟨n0 + 1, 0, some 0⟩) 1 (2 * 1 + 1)) (ints (mkS by_ 1)) [(n0 + 1, .inp 3 0 0 [.int .i64 (-1)])] := .full (len := 1) rfl rfl
  have hOh : Own 29 1 (.slice (some ⟨n0 + 1 + 1, 0, some 0⟩) 1 (2 * 1 + 1)) (numsK .u64 [1]) [(n0 + 1 + 1, .inp 29 0 0 [.int .u64 1])] := .full (len := 1) rfl rfl
  clear hH1 hH2 hH3
  repeat' (first | refine zP ?_ | refine zA ?_ | (refine zM ?_; intro _ _) | refine zX ?_ | (refine zC ?_; intro _ _ _ _) | (refine zS ?_; intro _ _) | (apply Ws <;> intro hg))
  refine WC.loopX [(2, _), (6, _)] (fun z : KH => [(9, .int .i64 (z.k : Int)), (7, z.vs), (8, z.vh)]) []
    (fun z H' => 1 ≤ z.k ∧ z.k ≤ n ∧ z.hs.length = z.k ∧ (∀ i, i < z.k → z.hs.getD i 0 = hmTo (mkS by_ n) z.k i) ∧ Own 3 1 z.vs (ints (mkS by_ z.k)) z.MS ∧ Own 29 1 z.vh (numsK .u64 z.hs) z.MH ∧ n0 ≤ z.n ∧ hasH (z.MS ++ (z.MH ++ ((n0, .row 24 0 0 (numsK .u8 (x :: by_))) :: M))) z.n H') (fun z => n - z.k)
    ⟨1, _, _, [1], _, _, n0 + 1 + 1 + 1⟩ (by repeat' (first | exact .nil | refine .cons rfl ?_)) rfl ⟨Nat.le_refl _, hn10.1, rfl, fun i hi => ?_, hOs, hOh, by simp only; omega, hH4⟩ ?_
  · have : i = 0 := by simp only at hi; omega
    subst this
    refine bits_ext fun j => ?_
    rw [hmTo_bit, show ([1] : List Nat).getD 0 0 = 2 ^ 0 from rfl, pow_bit]
    constructor
    · rintro rfl; exact ⟨by simp only; omega, by simp only; omega, adj_self _ _⟩
    · rintro ⟨_, h, _⟩; simp only at h; omega
  clear hH4 hOs hOh
  rintro ⟨k, vs, vh, hs, MS, MH, n1⟩ H2 ⟨hk1, hk, hhl, hhv, hOs, hOh, hn1, hH⟩
  simp only at hk1 hk hhl hhv hOs hOh hn1 hH
  have hm0 : (n0, Ch.row 24 0 0 (numsK .u8 (x :: by_))) ∈ MS ++ (MH ++ ((n0, .row 24 0 0 (numsK .u8 (x :: by_))) :: M)) := by simp
  dsimp only [List.cons_append, List.nil_append]
  repeat' (first | refine zP ?_ | refine zA ?_ | (refine zM ?_; intro _ _) | refine zX ?_ | (refine zC ?_; intro _ _ _ _) | (refine zS ?_; intro _ _) | (apply Ws <;> intro hg))
  refine WC.condP rfl (fun hlt => ?_) (fun hlt => ?_)
  · have hk' : k < n := by omega
    have hby : by_.getD k 0 ≤ 255 := hb _ (getD_mem (by omega))
    have hgk : (numsK .u8 (x :: by_))[1 + k]? = some (.int .u8 ((by_.getD k 0 : Nat) : Int)) := by
      unfold numsK
      rw [Nat.add_comm 1 k, List.map_cons, List.getElem?_cons_succ, List.getElem?_map, List.getElem?_eq_getElem (by omega), getD_eq (by omega)]; rfl
    repeat' (first | refine zP ?_ | refine zA ?_ | (refine zM ?_; intro _ _) | refine zX ?_ | (refine zC ?_; intro _ _ _ _) | (refine zS ?_; intro _ _) | (apply Ws <;> intro hg))
    refine WR.op (by first | exact gN | exact gS rfl) rfl (OpV.load1 (v := .int .u8 ((by_.getD k 0 : Nat) : Int)) rfl hH hm0 (.row _ _ _ _) (Nat.zero_le _) (by rw [Nat.sub_zero]; exact hgk)) ?_
    refine WR.op (by first | exact gN | exact gS rfl) rfl (OpV.conv u8k i64k rfl (c := ((by_.getD k 0 : Nat) : Int)) (IntWalk.i64_in _ (by omega))) ?_
    repeat' (first | refine zP ?_ | refine zA ?_ | (refine zM ?_; intro _ _) | refine zX ?_ | (refine zC ?_; intro _ _ _ _) | (refine zS ?_; intro _ _) | (apply Ws <;> intro hg))
    rw [show ((by_.getD k 0 : Nat) : Int) % (k : Int) = ((by_.getD k 0 % k : Nat) : Int) by simp]
    have hpm := Nat.mod_lt (by_.getD k 0) (show 0 < k by omega)
    have hss := mkS_succ by_ k
    rw [if_neg (by omega)] at hss
    have hgp := mkS_get (by_ := by_) hk'
    rw [if_neg (by omega)] at hgp
    have hgw := hm_grow hok hk1 (by rw [hlen]; exact hk') hgp hpm hhl hhv
    generalize by_.getD k 0 % k = p at hpm hss hgp hgw ⊢
    have hp1 : 2 ^ k < 1024 := by show 2 ^ k < 2 ^ 10; exact Nat.pow_lt_pow_right (by omega) (by omega)
    have hp2 : 2 ^ p < 1024 := by show 2 ^ p < 2 ^ 10; exact Nat.pow_lt_pow_right (by omega) (by omega)
    have hp3 : 2 ^ k ||| 2 ^ p < 1024 := Nat.or_lt_two_pow (n := 10) hp1 hp2
    repeat' (first | refine zP ?_ | refine zA ?_ | (refine zM ?_; intro _ _) | refine zX ?_ | (refine zC ?_; intro _ _ _ _) | (refine zS ?_; intro _ _) | (apply Ws <;> intro hg))
    refine WR.op (by first | exact gN | exact gS rfl) rfl (OpV.shl1 rfl rfl (by show k ≤ 64; omega) (lt64 hp1)) ?_
    repeat' (first | refine zP ?_ | refine zA ?_ | (refine zM ?_; intro _ _) | refine zX ?_ | (refine zC ?_; intro _ _ _ _) | (refine zS ?_; intro _ _) | (apply Ws <;> intro hg))
    refine WR.op (by first | exact gN | exact gS rfl) rfl (OpV.shl1 rfl rfl (by show p ≤ 64; omega) (lt64 hp2)) ?_
    refine WR.op (by first | exact gN | exact gS rfl) rfl (OpV.orN rfl rfl (lt64 hp1) (lt64 hp2)) ?_
    refine WR.append1RF [] MS (MH ++ ((n0, .row 24 0 0 (numsK .u8 (x :: by_))) :: M)) rfl rfl rfl rfl hOs hH (new := [.int .i64 (p : Int)]) rfl rfl rfl (Nat.le_refl _) (by decide) (by simp [mkS_len]; omega) fun vs2 MS2 n2 H3 hO2 hH3 hn2 => ?_
    refine WR.append1RF MS2 MH ((n0, .row 24 0 0 (numsK .u8 (x :: by_))) :: M) rfl rfl rfl rfl hOh hH3 (new := [.int .u64 ((2 ^ k ||| 2 ^ p : Nat) : Int)]) rfl rfl rfl (Nat.le_refl _) (by decide) (by simp; omega) fun vh2 MH2 n3 H4 hO3 hH4 hn3 => ?_
    clear hH hH3 hOs hOh
    have hO2' : Own 3 1 vs2 (ints (mkS by_ (k + 1))) MS2 := by rw [hss, ints, List.map_append]; exact hO2.own
    have hnn : numsK .u64 hs ++ [Value.int .u64 ((2 ^ k ||| 2 ^ p : Nat) : Int)] = numsK .u64 (hs ++ [2 ^ k ||| 2 ^ p]) := by simp [numsK]
    rw [hnn] at hO3
    have hls : (hs ++ [2 ^ k ||| 2 ^ p]).length = k + 1 := by simp [hhl]
    have hbp : (hs ++ [2 ^ k ||| 2 ^ p]).getD p 0 < 1024 := by rw [getD_app_l (by omega), hhv p (by omega)]; exact hmTo_lt p (by omega)
    generalize hs ++ [2 ^ k ||| 2 ^ p] = l2 at hO3 hls hbp hgw
    have hll : (numsK .u64 l2).length = (k + 1) * 1 := by simp [numsK, hls]
    generalize hq : numsK .u64 l2 = q2 at hO3 hll
    cases hO3 with
    | @mk b u o len _ hl3 =>
      have hlk : len = k + 1 := by omega
      subst hlk
      subst hq
      replace hH4 : hasH ((b, Ch.row 29 u o (numsK .u64 l2)) :: (MS2 ++ ((n0, .row 24 0 0 (numsK .u8 (x :: by_))) :: M))) n3 H4 := hH4.perm (List.perm_middle (l₁ := MS2) (a := (b, Ch.row 29 u o (numsK .u64 l2))))
      have hSh : Sl ((b, Ch.row 29 u o (numsK .u64 l2)) :: (MS2 ++ ((n0, .row 24 0 0 (numsK .u8 (x :: by_))) :: M))) 1 (.slice (some ⟨b, o, some u⟩) (k + 1) (2 * 1)) (numsK .u64 l2) := Own.sl (.row hl3) (MS2 ++ ((n0, .row 24 0 0 (numsK .u8 (x :: by_))) :: M))
      repeat' (first | refine zP ?_ | refine zA ?_ | (refine zM ?_; intro _ _) | refine zX ?_ | (refine zC ?_; intro _ _ _ _) | (refine zS ?_; intro _ _) | (apply Ws <;> intro hg))
      refine WR.op (by first | exact gN | exact gS rfl) rfl (OpV.load1 (v := .int .u64 ((l2.getD p 0 : Nat) : Int)) rfl hH4 (.head _) (.row _ _ _ _) (Nat.le_add_right _ _) (by rw [Nat.add_sub_cancel_left]; exact nodes_get (by omega))) ?_
      repeat' (first | refine zP ?_ | refine zA ?_ | (refine zM ?_; intro _ _) | refine zX ?_ | (refine zC ?_; intro _ _ _ _) | (refine zS ?_; intro _ _) | (apply Ws <;> intro hg))
      refine WR.op (by first | exact gN | exact gS rfl) rfl (OpV.shl1 rfl rfl (by show k ≤ 64; omega) (lt64 hp1)) ?_
      refine WR.op (by first | exact gN | exact gS rfl) rfl (OpV.orN rfl rfl (lt64 hbp) (lt64 hp1)) ?_
      repeat' (first | refine zP ?_ | refine zA ?_ | (refine zM ?_; intro _ _) | refine zX ?_ | (refine zC ?_; intro _ _ _ _) | (refine zS ?_; intro _ _) | (apply Ws <;> intro hg))
      refine WR.store1 (cs' := numsK .u64 (l2.set p (l2.getD p 0 ||| 2 ^ k))) (by first | exact gN | exact gS rfl) hH4 rfl rfl rfl .here (Nat.le_add_right _ _) (by rw [Nat.add_sub_cancel_left]; simp [numsK]; omega) (by rw [Nat.add_sub_cancel_left]; simp [numsK]) fun H5 hH5 => ?_
      repeat' (first | refine zP ?_ | refine zA ?_ | (refine zM ?_; intro _ _) | refine zX ?_ | (refine zC ?_; intro _ _ _ _) | (refine zS ?_; intro _ _) | (apply Ws <;> intro hg))
      exact Ends.loop ⟨k + 1, vs2, _, l2.set p (l2.getD p 0 ||| 2 ^ k), MS2, [(b, .row 29 u o (numsK .u64 (l2.set p (l2.getD p 0 ||| 2 ^ k))))], n3⟩ (by simp only; omega) (by repeat' (first | exact .nil | refine .cons rfl ?_)) rfl ⟨by simp only; omega, hk', by simpa using hls, hgw, hO2', .row (by simp [numsK, hls]), by simp only; omega, hH5.perm (List.perm_middle (l₁ := MS2)).symm⟩
  · have hkn : k = n := by omega
    subst hkn
    have hhs : hs = hsL (mkS by_ k) := by
      refine ext_getD (a := 0) (by rw [hsL_len, hlen, hhl]) fun i hi => ?_
      rw [hhv i (by omega), hsL_get (by omega)]
      have := hmTo_all (xs := mkS by_ k) (i := i) (by omega)
      rw [hlen] at this
      exact this
    subst hhs
    repeat' (first | refine zP ?_ | refine zA ?_ | (refine zM ?_; intro _ _) | refine zX ?_ | (refine zC ?_; intro _ _ _ _) | (refine zS ?_; intro _ _) | (apply Ws <;> intro hg))
    exact Ends.ret2 rfl rfl ⟨vs, vh, MS, MH, n1, rfl, hOs, hOh, hn1, (hH.perm (M' := (n0, .row 24 0 0 (numsK .u8 (x :: by_))) :: (MS ++ (MH ++ M))) (by classical exact List.perm_iff_count.2 (fun a => by simp only [defds, List.map_cons, List.map_nil, List.count_append, List.count_cons, List.count_nil, List.cons_append, List.nil_append, List.append_nil]; omega))).tail⟩
end
end Go.Proofs.YtcfffhkabhmkmaaDoor.Ps

/- Bits of numbers; sets as lists. -/
namespace Go.Abs
set_option linter.unusedSectionVars false
open Go
section
variable [Globs] {C : CW} {nt : Nat} {L : Env} {D : List Nat} {H : Heap} {K : St → Prop} {M M' : HL} {n : Nat} {gd : Option (Tmp × Bool)} {lo : List Nat} {l : List POp}
theorem OpV.idxG {x ix : Operand} {k : FloatKind} {g o m n sz : Nat} {kd : IntKind} (hx : ev L x = some (.complex k g o)) (hi : ev L ix = some (.int kd (m : Int))) (hm : m < n) : OpV C (.idxA x ix n sz) L H (.complex k g (o + m * sz)) H := fun t ht => by
  have e1 : natOf (.int kd (m : Int)) = some m := rfl
  simp only [opA, ev_ok ht hx, ev_ok ht hi, oIdxA, e1, blt_of hm, cond_true]
theorem OpV.loadG {x : Operand} {k : FloatKind} {g o : Nat} {v : Value} (hx : ev L x = some (.complex k g o)) (hv : gRead g o = some v) : OpV C (.load1 x) L H v H := fun t ht => by
  simp only [opA, ev_ok ht hx, oLoad1, hv, asVal]
theorem OpV.mulK {k : IntKind} {x y : Operand} {a b c : Int} (hx : ev L x = some (.int k a)) (hy : ev L y = some (.int k b)) (hc : k.wrap (a * b) = c) : OpV C (.ibin .mul k x y) L H (.int k c) H := by
  subst hc; exact OpV.arith hx hy (by simp only [ibinA, fitI_wrap])
theorem OpV.negK {dst : Option Tmp} {x : Operand} {s ty : TypeId} {pos : String} {af : Array Edge} {g : Option (Nat × Bool)} {k : IntKind} {a c : Int} (hx : ev L x = some (.int k a)) (hc : k.wrap (0 - a) = c) :
    OpV C (.plain ⟨dst, .unOp .neg s x, ty, pos, af, g⟩) L H (.int k c) H := by
  subst hc
  refine OpV.plain (fun t ht => ?_) (fun t ht => by simp [Op.operands, ev_ok ht hx, plainV, plain1]) rfl
  have e2 : pureRun C.c.P (Op.unary .neg (.int k a)) = some (.int k (k.wrap (0 - a))) := rfl
  simp only [pureNext, execOp, ev_ok ht hx, pureRun_bind, e2, Option.bind_some]
  rfl
end
end Go.Abs
namespace Go.Proofs.YtcfffhkabhmkmaaDoor.Ps
open Go Go.Abs Go.Mth
set_option linter.unusedVariables false
set_option linter.unusedSimpArgs false
theorem wrapI (z : Int) : IntKind.u64.wrap z = z % 18446744073709551616 := by
  simp [IntKind.wrap, IntKind.bits, IntKind.signed]
theorem wrapU (r : Nat) : IntKind.u64.wrap (r : Int) = ((r % 2 ^ 64 : Nat) : Int) := by
  rw [wrapI]; omega
def brT : List Nat := [0, 1, 56, 2, 57, 49, 28, 3, 61, 58, 42, 50, 38, 29, 17, 4, 62, 47, 59, 36, 45, 43, 51, 22, 53, 39, 33, 30, 24, 18, 12, 5, 63, 55, 48, 27, 60, 41, 37, 16, 46, 35, 44, 21, 52, 32, 23, 11, 54, 26, 40, 15, 34, 20, 31, 10, 25, 14, 19, 9, 13, 8, 7, 6]
theorem gread_br {m : Nat} (h : m < 64) : gRead 1 (0 + m * 1) = some (.int .u8 ((brT.getD m 0 : Nat) : Int)) := by
  have e : (numsK .u8 brT)[0 + m * 1]? = some (.int .u8 ((brT.getD m 0 : Nat) : Int)) := by
    rw [Nat.zero_add, Nat.mul_one]
    exact nodes_get (by simpa [brT] using h)
  show (match (numsK .u8 brT)[0 + m * 1]? with | some v => bif plain1 v then some v else none | none => none) = _
  rw [e]; rfl
def ngN (s : Nat) : Nat := (2 ^ 64 - s) % 2 ^ 64
def tzI (s : Nat) : Nat := ((s &&& ngN s) * 285870213051353865 % 2 ^ 64) >>> 58
theorem tz_ok : ∀ s, s < 1024 → s ≠ 0 → tzI s < 64 ∧ plcL s 10 = brT.getD (tzI s) 0 :: plcL (s &&& (s - 1)) 10 ∧ (s &&& (s - 1)) < s := by decide +kernel
theorem plcL_zero : plcL 0 10 = [] := by decide
attribute [local irreducible] gOK WS WC WR WD Ends FS YS OpV seqK blockK loopK midK retK rdK asgK rangeEnd sat Cell
section
variable {M : HL} {n0 : Nat} {H : Heap} {v w : Value}
theorem tz64_fs {s : Nat} (hs : s < 1024) (h0 : s ≠ 0) (H : Heap) : FS C 54 [.int .u64 (s : Int)] H (fun e H' => e = .int .i64 ((brT.getD (tzI s) 0 : Nat) : Int) ∧ H' = H) := by
  obtain ⟨h1, h2, h3⟩ := tz_ok s hs h0
  refine FS.intro (pf := pf54) rfl rfl rfl ?_
  repeat' (first | refine zP ?_ | refine zA ?_ | (refine zM ?_; intro _ _) | refine zX ?_ | (refine zC ?_; intro _ _ _ _) | (refine zS ?_; intro _ _) | refine zO ?_ | (apply Ws <;> intro hg))
  have hng : ngN s < 2 ^ 64 := Nat.mod_lt _ (by decide)
  have ha : s &&& ngN s < capK .u64 := and_cap (lt64 hs)
  have hbr : brT.getD (tzI s) 0 ≤ 255 := by
    have : ∀ i, i < 64 → brT.getD i 0 ≤ 255 := by decide
    exact this _ h1
  refine WR.op (by first | exact gN | exact gS rfl) rfl (OpV.negK rfl (c := ((ngN s : Nat) : Int)) (by rw [wrapI]; unfold ngN; omega)) ?_
  refine WR.op (by first | exact gN | exact gS rfl) rfl (OpV.andN rfl rfl (lt64 hs) hng) ?_
  refine WR.op (by first | exact gN | exact gS rfl) rfl (OpV.mulK rfl rfl (c := (((s &&& ngN s) * 285870213051353865 % 2 ^ 64 : Nat) : Int)) (by rw [show ((s &&& ngN s : Nat) : Int) * 285870213051353865 = (((s &&& ngN s) * 285870213051353865 : Nat) : Int) by omega]; exact wrapU _)) ?_
  refine WR.op (by first | exact gN | exact gS rfl) rfl (OpV.shrN (m := 58) rfl rfl (by decide)) ?_
  refine WR.op (by first | exact gN | exact gS rfl) rfl (OpV.idxG (m := tzI s) rfl rfl (by omega)) ?_
  refine WR.op (by first | exact gN | exact gS rfl) rfl (OpV.loadG rfl (gread_br h1)) ?_
  refine WR.op (by first | exact gN | exact gS rfl) rfl (OpV.conv u8k i64k rfl (c := ((brT.getD (tzI s) 0 : Nat) : Int)) (IntWalk.i64_in _ (by omega))) ?_
  repeat' (first | refine zP ?_ | refine zA ?_ | (refine zM ?_; intro _ _) | refine zX ?_ | (refine zC ?_; intro _ _ _ _) | (refine zS ?_; intro _ _) | (apply Ws <;> intro hg))
  exact Ends.ret1 rfl ⟨rfl, rfl⟩
theorem tz_fs {s : Nat} (hs : s < 1024) (h0 : s ≠ 0) (H : Heap) : FS C 30 [.int .u64 (s : Int)] H (fun e H' => e = .int .i64 ((brT.getD (tzI s) 0 : Nat) : Int) ∧ H' = H) := by
  refine FS.intro (pf := pf30) rfl rfl rfl ?_
  repeat' (first | refine zP ?_ | refine zA ?_ | (refine zM ?_; intro _ _) | refine zX ?_ | (refine zC ?_; intro _ _ _ _) | (refine zS ?_; intro _ _) | (apply Ws <;> intro hg))
  refine WR.call (by first | exact gN | exact gS rfl) rfl rfl (tz64_fs hs h0 _) ?_
  rintro _ _ ⟨rfl, rfl⟩
  repeat' (first | refine zP ?_ | refine zA ?_ | (refine zM ?_; intro _ _) | refine zX ?_ | (refine zC ?_; intro _ _ _ _) | (refine zS ?_; intro _ _) | (apply Ws <;> intro hg))
  exact Ends.ret1 rfl ⟨rfl, rfl⟩
structure KB where
  s : Nat
  done : List Nat
  v : Value
  Mx : HL
  n : Nat
theorem members_fs (hH : hasH M n0 H) {s : Nat} (hs : s < 1024) :
    FS C 9 [.int .u64 (s : Int)] H (fun e H' => ∃ Mx n', Own 3 1 e (nodes (plcL s 10)) Mx ∧ n0 ≤ n' ∧ hasH (Mx ++ M) n' H') := by
  refine FS.intro (pf := pf9) rfl rfl rfl ?_
  repeat' (first | refine zP ?_ | refine zA ?_ | (refine zM ?_; intro _ _) | refine zX ?_ | (refine zC ?_; intro _ _ _ _) | (refine zS ?_; intro _ _) | (apply Ws <;> intro hg))
  refine WC.loopX [] (fun z : KB => [(0, .int .u64 (z.s : Int)), (3, z.v)]) [] (fun z H' => z.s < 1024 ∧ z.done ++ plcL z.s 10 = plcL s 10 ∧ Own 3 1 z.v (nodes z.done) z.Mx ∧ n0 ≤ z.n ∧ hasH (z.Mx ++ M) z.n H') (fun z => z.s) ⟨s, [], .slice none 0 0, [], n0⟩ (by repeat' (first | exact .nil | refine .cons rfl ?_)) rfl ⟨hs, rfl, .nil, Nat.le_refl _, hH⟩ ?_
  clear hH
  rintro ⟨r, dn, v3, Mx, n1⟩ H1 ⟨hr, hd, hO, hn1, hH⟩
  simp only at hr hd hO hn1 hH
  have hdl : dn.length ≤ 10 := by
    have h1 := congrArg List.length hd
    have h2 := plcL_len s 10
    rw [List.length_append] at h1
    omega
  dsimp only [List.cons_append, List.nil_append]
  by_cases h0 : r = 0
  · subst h0
    rw [plcL_zero, List.append_nil] at hd
    rw [hd] at hO
    repeat' (first | refine zP ?_ | refine zA ?_ | (refine zM ?_; intro _ _) | refine zX ?_ | (refine zC ?_; intro _ _ _ _) | (refine zS ?_; intro _ _) | refine zO ?_ | (apply Ws <;> intro hg))
    exact Ends.ret1 rfl ⟨Mx, n1, hO, hn1, hH⟩
  · obtain ⟨h1, h2, h3⟩ := tz_ok r hr h0
    rw [h2] at hd
    repeat' (first | refine zP ?_ | refine zA ?_ | (refine zM ?_; intro _ _) | refine zX ?_ | (refine zC ?_; intro _ _ _ _) | (refine zS ?_; intro _ _) | refine zO ?_ | (apply Ws <;> intro hg))
    refine WR.call (by first | exact gN | exact gS rfl) rfl rfl (tz_fs hr h0 _) ?_
    rintro _ _ ⟨rfl, rfl⟩
    refine WR.append1F [] Mx M rfl rfl rfl rfl hO hH (new := [.int .i64 ((brT.getD (tzI r) 0 : Nat) : Int)]) rfl rfl rfl (Nat.le_refl _) (by decide) (by simp; omega) fun v' Mx' n' H' q1 q2 q3 => ?_
    repeat' (first | refine zP ?_ | refine zA ?_ | (refine zM ?_; intro _ _) | refine zX ?_ | (refine zC ?_; intro _ _ _ _) | (refine zS ?_; intro _ _) | (apply Ws <;> intro hg))
    refine WR.op (by first | exact gN | exact gS rfl) rfl (OpV.subK rfl rfl (c := ((r - 1 : Nat) : Int)) (by rw [wrapI]; omega)) ?_
    refine WR.op (by first | exact gN | exact gS rfl) rfl (OpV.andN rfl rfl (lt64 hr) (lt64 (by omega))) ?_
    repeat' (first | refine zP ?_ | refine zA ?_ | (refine zM ?_; intro _ _) | refine zX ?_ | (refine zC ?_; intro _ _ _ _) | (refine zS ?_; intro _ _) | (apply Ws <;> intro hg))
    refine Ends.loop ⟨r &&& (r - 1), dn ++ [brT.getD (tzI r) 0], v', Mx', n'⟩ h3 (by repeat' (first | exact .nil | refine .cons rfl ?_)) rfl ⟨by simp only; omega, by simp only; rw [← hd]; simp, ?_, by simp only; omega, q2⟩
    simp only
    rw [nodes_snoc]; exact q1
def grdS (xs : List Int) (s : Nat) : Bool := (List.range xs.length).all fun i => decide (hm xs i &&& s ≠ 0)
theorem isNone_fs (hH : hasH M n0 H) {h s b : Nat} (hh : h < 1024) (hs : s < 1024) (hm' : (b, Ch.row 29 0 0 [.int .u64 (s : Int)]) ∈ M) :
    FS C 32 ([] ++ [.int .u64 (h : Int)] ++ [ptrO b 0]) H (fun e H' => e = .bool (decide (h &&& s = 0)) ∧ H' = H) := by
  refine FS.intro (pf := pf32) rfl rfl rfl ?_
  repeat' (first | refine zP ?_ | refine zA ?_ | (refine zM ?_; intro _ _) | refine zX ?_ | (refine zC ?_; intro _ _ _ _) | (refine zS ?_; intro _ _) | (apply Ws <;> intro hg))
  refine WR.op (by first | exact gN | exact gS rfl) rfl (OpV.andN rfl rfl (lt64 hh) (lt64 hs)) ?_
  repeat' (first | refine zP ?_ | refine zA ?_ | (refine zM ?_; intro _ _) | refine zX ?_ | (refine zC ?_; intro _ _ _ _) | (refine zS ?_; intro _ _) | (apply Ws <;> intro hg))
  exact Ends.ret1 rfl ⟨by congr 1; rw [decide_eq_decide]; omega, rfl⟩
theorem guardsS_fs (hH : hasH M n0 H) {xs : List Int} (h10 : xs.length ≤ 10) (hS : Sl M 1 v (numsK .u64 (hsL xs))) {s : Nat} (hs : s < 1024) :
    FS C 10 [v, .int .u64 (s : Int)] H (fun e H' => e = .bool (grdS xs s) ∧ hasH M (n0 + 1) H') := by
  have hv := hS.one_
  have hl := hsL_len xs
  have hIdx : ∀ {H1 : Heap}, hasH ((n0, Ch.row 29 0 0 [.int .u64 (s : Int)]) :: M) (n0 + 1) H1 → FS C 55 [v, .func (.func 32) [].toArray [ptrO n0 0].toArray] H1 (fun e H' => e = .int .i64 (if grdS xs s = true then -1 else 0) ∧ H' = H1 ∨ (∃ k : Nat, e = .int .i64 (k : Int) ∧ grdS xs s = false ∧ H' = H1)) := by
    intro H1 hH1
    have hS1 := hS.cons (p := (n0, Ch.row 29 0 0 [.int .u64 (s : Int)]))
    refine FS.intro (pf := pf55) rfl rfl rfl ?_
    repeat' (first | refine zP ?_ | refine zA ?_ | (refine zM ?_; intro _ _) | refine zX ?_ | (refine zC ?_; intro _ _ _ _) | (refine zS ?_; intro _ _) | (apply Ws <;> intro hg))
    refine WC.loopX [(0, v), (1, _), (6, v), (7, _)] (fun k : Nat => [(8, .int .i64 (k : Int))]) [] (fun k H' => H' = H1 ∧ k ≤ xs.length ∧ ∀ i, i < k → hm xs i &&& s ≠ 0) (fun k => xs.length - k) 0 (by repeat' (first | exact .nil | refine .cons rfl ?_)) rfl ⟨rfl, Nat.zero_le _, fun i h => absurd h (Nat.not_lt_zero _)⟩ ?_
    rintro k H' ⟨rfl, hk, hall⟩
    dsimp only [List.cons_append, List.nil_append]
    repeat' (first | refine zP ?_ | refine zA ?_ | (refine zM ?_; intro _ _) | refine zX ?_ | (refine zC ?_; intro _ _ _ _) | (refine zS ?_; intro _ _) | (apply Ws <;> intro hg))
    refine WC.condP rfl (fun hlt => ?_) (fun hlt => ?_)
    · have hk' : k < xs.length := by omega
      have hg := hsL_get hk'
      have hb := hm_lt10 h10 k
      repeat' (first | refine zP ?_ | refine zA ?_ | (refine zM ?_; intro _ _) | refine zX ?_ | (refine zC ?_; intro _ _ _ _) | (refine zS ?_; intro _ _) | (apply Ws <;> intro hg))
      rw [hg]
      refine WR.callV (by first | exact gN | exact gS rfl) rfl rfl rfl (isNone_fs hH1 hb hs (.head _)) ?_
      rintro _ _ ⟨rfl, rfl⟩
      by_cases h0 : hm xs k &&& s = 0
      · rw [decide_eq_true h0]
        repeat' (first | refine zP ?_ | refine zA ?_ | (refine zM ?_; intro _ _) | refine zX ?_ | (refine zC ?_; intro _ _ _ _) | (refine zS ?_; intro _ _) | (apply Ws <;> intro hg))
        refine Ends.ret1 rfl (.inr ⟨k, rfl, ?_, rfl⟩)
        cases hgs : grdS xs s with
        | false => rfl
        | true =>
          have := List.all_eq_true.1 hgs k (List.mem_range.2 hk')
          exact absurd h0 (of_decide_eq_true this)
      · rw [decide_eq_false h0]
        repeat' (first | refine zP ?_ | refine zA ?_ | (refine zM ?_; intro _ _) | refine zX ?_ | (refine zC ?_; intro _ _ _ _) | (refine zS ?_; intro _ _) | (apply Ws <;> intro hg))
        refine Ends.loop (k + 1) (by omega) (by repeat' (first | exact .nil | refine .cons rfl ?_)) rfl ⟨rfl, hk', fun i hi => ?_⟩
        by_cases e : i = k
        · rw [e]; exact h0
        · exact hall i (by omega)
    · have hkl : k = xs.length := by omega
      subst hkl
      have hgs : grdS xs s = true := List.all_eq_true.2 fun i hi => decide_eq_true (hall i (List.mem_range.1 hi))
      repeat' (first | refine zP ?_ | refine zA ?_ | (refine zM ?_; intro _ _) | refine zX ?_ | (refine zC ?_; intro _ _ _ _) | (refine zS ?_; intro _ _) | (apply Ws <;> intro hg))
      exact Ends.ret1 rfl (.inl ⟨by rw [hgs, if_pos rfl], rfl⟩)
  have hCon : ∀ {H1 : Heap}, hasH ((n0, Ch.row 29 0 0 [.int .u64 (s : Int)]) :: M) (n0 + 1) H1 → FS C 31 [v, .func (.func 32) [].toArray [ptrO n0 0].toArray] H1 (fun e H' => e = .bool (!grdS xs s) ∧ H' = H1) := by
    intro H1 hH1
    refine FS.intro (pf := pf31) rfl rfl rfl ?_
    repeat' (first | refine zP ?_ | refine zA ?_ | (refine zM ?_; intro _ _) | refine zX ?_ | (refine zC ?_; intro _ _ _ _) | (refine zS ?_; intro _ _) | (apply Ws <;> intro hg))
    refine WR.call (by first | exact gN | exact gS rfl) rfl rfl (hIdx hH1) ?_
    rintro _ _ (⟨rfl, rfl⟩ | ⟨k, rfl, hg, rfl⟩)
    · cases hg : grdS xs s with
      | true =>
        repeat' (first | refine zP ?_ | refine zA ?_ | (refine zM ?_; intro _ _) | refine zX ?_ | (refine zC ?_; intro _ _ _ _) | (refine zS ?_; intro _ _) | (apply Ws <;> intro hg))
        exact Ends.ret1 rfl ⟨by simp, rfl⟩
      | false =>
        repeat' (first | refine zP ?_ | refine zA ?_ | (refine zM ?_; intro _ _) | refine zX ?_ | (refine zC ?_; intro _ _ _ _) | (refine zS ?_; intro _ _) | (apply Ws <;> intro hg))
        exact Ends.ret1 rfl ⟨by simp, rfl⟩
    · rw [hg]
      repeat' (first | refine zP ?_ | refine zA ?_ | (refine zM ?_; intro _ _) | refine zX ?_ | (refine zC ?_; intro _ _ _ _) | (refine zS ?_; intro _ _) | (apply Ws <;> intro hg))
      exact Ends.ret1 rfl ⟨by simp, rfl⟩
  refine FS.intro (pf := pf10) rfl rfl rfl ?_
  repeat' (first | refine zP ?_ | refine zA ?_ | (refine zM ?_; intro _ _) | refine zX ?_ | (refine zC ?_; intro _ _ _ _) | (refine zS ?_; intro _ _) | (apply Ws <;> intro hg))
  rename_i H1 hH1
  refine WR.call (by first | exact gN | exact gS rfl) rfl rfl (hCon hH1) ?_
  rintro _ _ ⟨rfl, rfl⟩
  cases hg : grdS xs s with
  | true =>
    repeat' (first | refine zP ?_ | refine zA ?_ | (refine zM ?_; intro _ _) | refine zX ?_ | (refine zC ?_; intro _ _ _ _) | (refine zS ?_; intro _ _) | (apply Ws <;> intro hg))
    exact Ends.ret1 rfl ⟨by simp, hH1.tail⟩
  | false =>
    repeat' (first | refine zP ?_ | refine zA ?_ | (refine zM ?_; intro _ _) | refine zX ?_ | (refine zC ?_; intro _ _ _ _) | (refine zS ?_; intro _ _) | (apply Ws <;> intro hg))
    exact Ends.ret1 rfl ⟨by simp, hH1.tail⟩
theorem plcL_lt {s x : Nat} (h : x ∈ plcL s 10) : x < 10 ∧ s.testBit x = true := by
  have := List.mem_filter.1 h
  exact ⟨List.mem_range.1 this.1, this.2⟩
theorem apartS_fs (hH : hasH M n0 H) {xs : List Int} (h10 : xs.length ≤ 10) (hS : Sl M 1 v (numsK .u64 (hsL xs))) {s : Nat} (hs : s < 2 ^ xs.length) :
    FS C 12 [v, .int .u64 (s : Int)] H (fun e H' => e = .bool (apt xs (plcL s 10)) ∧ ∃ n', n0 ≤ n' ∧ hasH M n' H') := by
  have hv := hS.one_
  have hlen := hsL_len xs
  have hs10 : s < 1024 := Nat.lt_of_lt_of_le hs (by show 2 ^ xs.length ≤ 2 ^ 10; exact Nat.pow_le_pow_right (by omega) h10)
  have hl : ∀ x ∈ plcL s 10, x < xs.length := fun x hx => by
    have h1 := (plcL_lt hx).2
    refine Nat.lt_of_not_le fun hc => ?_
    have := Nat.testBit_lt_two_pow (Nat.lt_of_lt_of_le hs (Nat.pow_le_pow_right (by omega) hc))
    rw [h1] at this; cases this
  have hll := plcL_len s 10
  refine FS.intro (pf := pf12) rfl rfl rfl ?_
  repeat' (first | refine zP ?_ | refine zA ?_ | (refine zM ?_; intro _ _) | refine zX ?_ | (refine zC ?_; intro _ _ _ _) | (refine zS ?_; intro _ _) | (apply Ws <;> intro hg))
  refine WR.call (by first | exact gN | exact gS rfl) rfl rfl (members_fs hH hs10) ?_
  rintro v9 H1 ⟨Mx, n1, hO, hn1, hH1⟩
  have hS1 := hS.mono fun q hq => List.mem_append_right Mx hq
  have hU1 := hO.sl M
  have hHt : ∀ {H2 : Heap}, hasH (Mx ++ M) n1 H2 → hasH M n1 H2 := fun h => h.sub (List.sublist_append_right _ _)
  generalize Mx ++ M = X at hH1 hS1 hU1 hHt
  generalize plcL s 10 = l at hO hl hll hU1
  clear hH hO
  have hv9 := hU1.one_
  repeat' (first | refine zP ?_ | refine zA ?_ | (refine zM ?_; intro _ _) | refine zX ?_ | (refine zC ?_; intro _ _ _ _) | (refine zS ?_; intro _ _) | (apply Ws <;> intro hg))
  refine WC.loopX [(0, v), (9, v9), (10, _)] (fun k : Nat => [(11, .int .i64 (k : Int)), (5, .int .u64 (orM xs (l.take k) : Nat))]) [] (fun k H' => H' = H1 ∧ k ≤ l.length ∧ (l.take k).Pairwise (fun a b => hm xs a &&& hm xs b = 0)) (fun k => l.length - k) 0 (by repeat' (first | exact .nil | refine .cons rfl ?_)) rfl ⟨rfl, Nat.zero_le _, by simp⟩ ?_
  rintro k H' ⟨rfl, hk, hpw⟩
  have hor := orM_lt (xs := xs) h10 (l.take k)
  dsimp only [List.cons_append, List.nil_append]
  repeat' (first | refine zP ?_ | refine zA ?_ | (refine zM ?_; intro _ _) | refine zX ?_ | (refine zC ?_; intro _ _ _ _) | (refine zS ?_; intro _ _) | (apply Ws <;> intro hg))
  refine WC.condP rfl (fun hlt => ?_) (fun hlt => ?_)
  · have hk' : k < l.length := by omega
    have hmx := hl _ (getD_mem (a := 0) hk')
    have hg : (hsL xs).getD (l.getD k 0) 0 = hm xs (l.getD k 0) := hsL_get hmx
    have hb := hm_lt10 h10 (l.getD k 0)
    have htk : l.take (k + 1) = l.take k ++ [l.getD k 0] := by rw [List.take_succ_eq_append_getElem hk', ← getD_eq (a := 0)]
    have hsn := apt_snoc (xs := xs) (l := l.take k) (x := l.getD k 0)
    rw [← htk] at hsn
    repeat' (first | refine zP ?_ | refine zA ?_ | (refine zM ?_; intro _ _) | refine zX ?_ | (refine zC ?_; intro _ _ _ _) | (refine zS ?_; intro _ _) | (apply Ws <;> intro hg))
    rw [hg]
    refine WR.op (by first | exact gN | exact gS rfl) rfl (OpV.andN rfl rfl (lt64 hor) (lt64 hb)) ?_
    repeat' (first | refine zP ?_ | refine zA ?_ | (refine zM ?_; intro _ _) | refine zX ?_ | (refine zC ?_; intro _ _ _ _) | (refine zS ?_; intro _ _) | (apply Ws <;> intro hg))
    refine WC.condP rfl (fun hne => ?_) (fun hne => ?_)
    · repeat' (first | refine zP ?_ | refine zA ?_ | (refine zM ?_; intro _ _) | refine zX ?_ | (refine zC ?_; intro _ _ _ _) | (refine zS ?_; intro _ _) | (apply Ws <;> intro hg))
      refine Ends.ret1 rfl ⟨?_, n1, hn1, hHt hH1⟩
      congr 1
      refine (decide_eq_false fun hc => ?_).symm
      have h2 : (l.take (k + 1)).Pairwise (fun a b => hm xs a &&& hm xs b = 0) := hc.sublist (List.take_sublist _ _)
      have := (hsn.1 h2).2
      omega
    · repeat' (first | refine zP ?_ | refine zA ?_ | (refine zM ?_; intro _ _) | refine zX ?_ | (refine zC ?_; intro _ _ _ _) | (refine zS ?_; intro _ _) | (apply Ws <;> intro hg))
      rw [hg]
      refine WR.op (by first | exact gN | exact gS rfl) rfl (OpV.orN rfl rfl (lt64 hor) (lt64 hb)) ?_
      repeat' (first | refine zP ?_ | refine zA ?_ | (refine zM ?_; intro _ _) | refine zX ?_ | (refine zC ?_; intro _ _ _ _) | (refine zS ?_; intro _ _) | (apply Ws <;> intro hg))
      refine Ends.loop (k + 1) (by omega) (by rw [htk, orM_snoc]; exact (by repeat' (first | exact .nil | refine .cons rfl ?_))) rfl ⟨rfl, hk', hsn.2 ⟨hpw, by omega⟩⟩
  · have hkl : k = l.length := by omega
    subst hkl
    rw [List.take_length] at hpw
    repeat' (first | refine zP ?_ | refine zA ?_ | (refine zM ?_; intro _ _) | refine zX ?_ | (refine zC ?_; intro _ _ _ _) | (refine zS ?_; intro _ _) | (apply Ws <;> intro hg))
    refine Ends.ret1 rfl ⟨?_, n1, hn1, hHt hH1⟩
    congr 1
    exact (decide_eq_true hpw).symm
theorem isNaN_fs (a : Int) (H : Heap) : FS C 56 [.int .i64 a] H (fun e H' => e = .bool false ∧ H' = H) := by
  refine FS.intro (pf := pf56) rfl rfl rfl ?_
  repeat' (first | refine zP ?_ | refine zA ?_ | (refine zM ?_; intro _ _) | refine zX ?_ | (refine zC ?_; intro _ _ _ _) | (refine zS ?_; intro _ _) | (apply Ws <;> intro hg))
  exact Ends.ret1 rfl ⟨by rw [decide_eq_false (by simp)], rfl⟩
theorem cmpI_fs (a b : Int) (H : Heap) : FS C 33 [.int .i64 a, .int .i64 b] H (fun e H' => e = .int .i64 (cmpI a b) ∧ H' = H) := by
  refine FS.intro (pf := pf33) rfl rfl rfl ?_
  repeat' (first | refine zP ?_ | refine zA ?_ | (refine zM ?_; intro _ _) | refine zX ?_ | (refine zC ?_; intro _ _ _ _) | (refine zS ?_; intro _ _) | (apply Ws <;> intro hg))
  refine WR.call (by first | exact gN | exact gS rfl) rfl rfl (isNaN_fs _ _) ?_
  rintro _ _ ⟨rfl, rfl⟩
  repeat' (first | refine zP ?_ | refine zA ?_ | (refine zM ?_; intro _ _) | refine zX ?_ | (refine zC ?_; intro _ _ _ _) | (refine zS ?_; intro _ _) | (apply Ws <;> intro hg))
  refine WR.call (by first | exact gN | exact gS rfl) rfl rfl (isNaN_fs _ _) ?_
  rintro _ _ ⟨rfl, rfl⟩
  repeat' (first | refine zP ?_ | refine zA ?_ | (refine zM ?_; intro _ _) | refine zX ?_ | (refine zC ?_; intro _ _ _ _) | (refine zS ?_; intro _ _) | (apply Ws <;> intro hg))
  refine WC.condP rfl (fun h1 => ?_) (fun h1 => ?_)
  · repeat' (first | refine zP ?_ | refine zA ?_ | (refine zM ?_; intro _ _) | refine zX ?_ | (refine zC ?_; intro _ _ _ _) | (refine zS ?_; intro _ _) | (apply Ws <;> intro hg))
    exact Ends.ret1 rfl ⟨by rw [cmpI, if_pos h1], rfl⟩
  · repeat' (first | refine zP ?_ | refine zA ?_ | (refine zM ?_; intro _ _) | refine zX ?_ | (refine zC ?_; intro _ _ _ _) | (refine zS ?_; intro _ _) | (apply Ws <;> intro hg))
    refine WC.condP rfl (fun h2 => ?_) (fun h2 => ?_)
    · repeat' (first | refine zP ?_ | refine zA ?_ | (refine zM ?_; intro _ _) | refine zX ?_ | (refine zC ?_; intro _ _ _ _) | (refine zS ?_; intro _ _) | (apply Ws <;> intro hg))
      exact Ends.ret1 rfl ⟨by rw [cmpI, if_neg h1, if_pos h2], rfl⟩
    · repeat' (first | refine zP ?_ | refine zA ?_ | (refine zM ?_; intro _ _) | refine zX ?_ | (refine zC ?_; intro _ _ _ _) | (refine zS ?_; intro _ _) | (apply Ws <;> intro hg))
      exact Ends.ret1 rfl ⟨by rw [cmpI, if_neg h1, if_neg h2], rfl⟩
theorem Compare_fs (hH : hasH M n0 H) {xs ys : List Int} (hS : Sl M 1 v (ints xs)) (hU : Sl M 1 w (ints ys)) (hx : xs.length ≤ 1000) (hy : ys.length ≤ 1000) :
    FS C 13 [v, w] H (fun e H' => e = .int .i64 (lexC xs ys) ∧ H' = H) := by
  refine FS.intro (pf := pf13) rfl rfl rfl ?_
  repeat' (first | refine zP ?_ | refine zA ?_ | (refine zM ?_; intro _ _) | refine zX ?_ | (refine zC ?_; intro _ _ _ _) | (refine zS ?_; intro _ _) | (apply Ws <;> intro hg))
  refine WC.loopX [(0, _), (1, _), (9, _), (10, _)] (fun k : Nat => [(11, .int .i64 (k : Int))]) [] (fun k H' => H' = H ∧ k ≤ xs.length ∧ k ≤ ys.length ∧ lexC xs ys = lexC (xs.drop k) (ys.drop k)) (fun k => xs.length - k) 0 (by repeat' (first | exact .nil | refine .cons rfl ?_)) rfl ⟨rfl, Nat.zero_le _, Nat.zero_le _, rfl⟩ ?_
  rintro k _ ⟨rfl, hk, hk2, hL⟩
  dsimp only [List.cons_append, List.nil_append]
  repeat' (first | refine zP ?_ | refine zA ?_ | (refine zM ?_; intro _ _) | refine zX ?_ | (refine zC ?_; intro _ _ _ _) | (refine zS ?_; intro _ _) | (apply Ws <;> intro hg))
  refine WC.condP rfl (fun hlt => ?_) (fun hlt => ?_)
  · have hk' : k < xs.length := by omega
    rw [List.drop_eq_getElem_cons hk'] at hL
    repeat' (first | refine zP ?_ | refine zA ?_ | (refine zM ?_; intro _ _) | refine zX ?_ | (refine zC ?_; intro _ _ _ _) | (refine zS ?_; intro _ _) | (apply Ws <;> intro hg))
    refine WC.condP rfl (fun hge => ?_) (fun hge => ?_)
    · have hke : k = ys.length := by omega
      repeat' (first | refine zP ?_ | refine zA ?_ | (refine zM ?_; intro _ _) | refine zX ?_ | (refine zC ?_; intro _ _ _ _) | (refine zS ?_; intro _ _) | (apply Ws <;> intro hg))
      refine Ends.ret1 rfl ⟨?_, rfl⟩
      rw [hL, show ys.drop k = [] from List.drop_eq_nil_of_le (by omega)]; rfl
    · have hk3 : k < ys.length := by omega
      rw [List.drop_eq_getElem_cons hk3, lexC, ← getD_eq (a := 0) hk', ← getD_eq (a := 0) hk3] at hL
      repeat' (first | refine zP ?_ | refine zA ?_ | (refine zM ?_; intro _ _) | refine zX ?_ | (refine zC ?_; intro _ _ _ _) | (refine zS ?_; intro _ _) | (apply Ws <;> intro hg))
      refine WR.call (by first | exact gN | exact gS rfl) rfl rfl (cmpI_fs _ _ _) ?_
      rintro _ _ ⟨rfl, rfl⟩
      repeat' (first | refine zP ?_ | refine zA ?_ | (refine zM ?_; intro _ _) | refine zX ?_ | (refine zC ?_; intro _ _ _ _) | (refine zS ?_; intro _ _) | (apply Ws <;> intro hg))
      refine WC.condP rfl (fun hne => ?_) (fun hne => ?_)
      · repeat' (first | refine zP ?_ | refine zA ?_ | (refine zM ?_; intro _ _) | refine zX ?_ | (refine zC ?_; intro _ _ _ _) | (refine zS ?_; intro _ _) | (apply Ws <;> intro hg))
        exact Ends.ret1 rfl ⟨by rw [hL, if_pos hne], rfl⟩
      · repeat' (first | refine zP ?_ | refine zA ?_ | (refine zM ?_; intro _ _) | refine zX ?_ | (refine zC ?_; intro _ _ _ _) | (refine zS ?_; intro _ _) | (apply Ws <;> intro hg))
        exact Ends.loop (k + 1) (by omega) (by repeat' (first | exact .nil | refine .cons rfl ?_)) rfl ⟨rfl, by omega, by omega, by rw [hL, if_neg hne]⟩
  · have hkl : k = xs.length := by omega
    rw [show xs.drop k = [] from List.drop_eq_nil_of_le (by omega)] at hL
    repeat' (first | refine zP ?_ | refine zA ?_ | (refine zM ?_; intro _ _) | refine zX ?_ | (refine zC ?_; intro _ _ _ _) | (refine zS ?_; intro _ _) | (apply Ws <;> intro hg))
    refine WC.condP rfl (fun h3 => ?_) (fun h3 => ?_)
    · rw [List.drop_eq_getElem_cons (show k < ys.length by omega)] at hL
      repeat' (first | refine zP ?_ | refine zA ?_ | (refine zM ?_; intro _ _) | refine zX ?_ | (refine zC ?_; intro _ _ _ _) | (refine zS ?_; intro _ _) | (apply Ws <;> intro hg))
      exact Ends.ret1 rfl ⟨by rw [hL]; rfl, rfl⟩
    · rw [show ys.drop k = [] from List.drop_eq_nil_of_le (by omega)] at hL
      repeat' (first | refine zP ?_ | refine zA ?_ | (refine zM ?_; intro _ _) | refine zX ?_ | (refine zC ?_; intro _ _ _ _) | (refine zS ?_; intro _ _) | (apply Ws <;> intro hg))
      exact Ends.ret1 rfl ⟨by rw [hL]; rfl, rfl⟩

theorem CompareN_fs (hH : hasH M n0 H) {xs ys : List Nat} (hS : Sl M 1 v (nodes xs)) (hU : Sl M 1 w (nodes ys)) (hx : xs.length ≤ 1000) (hy : ys.length ≤ 1000) :
    FS C 13 [v, w] H (fun e H' => e = .int .i64 (lexC (IL xs) (IL ys)) ∧ H' = H) :=
  Compare_fs hH (by rw [← nodes_IL]; exact hS) (by rw [← nodes_IL]; exact hU) (by rw [IL_len]; exact hx) (by rw [IL_len]; exact hy)
end
end Go.Proofs.YtcfffhkabhmkmaaDoor.Ps

/- The lists that cost the least, one after the other. -/
namespace Go.Proofs.YtcfffhkabhmkmaaDoor.Ps
open Go Go.Abs Go.Mth
set_option linter.unusedVariables false
set_option linter.unusedSimpArgs false
theorem snocInd {α : Type} {P : List α → Prop} (h0 : P []) (h1 : ∀ l x, P l → P (l ++ [x])) (l : List α) : P l := by
  have : ∀ r : List α, P r.reverse := by
    intro r
    induction r with
    | nil => exact h0
    | cons x r ih => rw [List.reverse_cons]; exact h1 _ _ ih
  have h := this l.reverse
  rwa [List.reverse_reverse] at h
theorem bestF_inv (c : List Nat → Int) (zs : List (List Nat)) : (zs = [] ∧ bestF c zs = ([], 0)) ∨ ((∀ z ∈ zs, (bestF c zs).2 ≤ c z) ∧ (bestF c zs).1 = zs.filter (fun z => decide (c z = (bestF c zs).2)) ∧ (bestF c zs).1 ≠ []) := by
  refine snocInd (P := fun zs => (zs = [] ∧ bestF c zs = ([], 0)) ∨ ((∀ z ∈ zs, (bestF c zs).2 ≤ c z) ∧ (bestF c zs).1 = zs.filter (fun z => decide (c z = (bestF c zs).2)) ∧ (bestF c zs).1 ≠ [])) (.inl ⟨rfl, rfl⟩) (fun l x ih => ?_) zs
  right
  rw [bestF_snoc]
  rcases ih with ⟨rfl, h⟩ | ⟨h1, h2, h3⟩
  · rw [h]
    simp [bestS]
  · obtain ⟨B, m, hb⟩ : ∃ B m, bestF c l = (B, m) := ⟨_, _, rfl⟩
    rw [hb] at h1 h2 h3 ⊢
    simp only at h1 h2 h3
    unfold bestS
    simp only
    by_cases hc : c x < m
    · rw [if_pos (.inr hc)]
      refine ⟨fun z hz => ?_, ?_, by simp⟩
      · rcases List.mem_append.1 hz with hz | hz
        · have := h1 z hz; simp only; omega
        · rw [List.mem_singleton.1 hz]; exact Int.le_refl _
      · simp only
        rw [List.filter_append, List.filter_eq_nil_iff.2 fun z hz => by have := h1 z hz; simp; omega]
        simp
    · rw [if_neg (by rintro (h | h); exact h3 h; exact hc h)]
      by_cases he : c x = m
      · rw [if_pos he]
        refine ⟨fun z hz => ?_, ?_, by simp⟩
        · rcases List.mem_append.1 hz with hz | hz
          · exact h1 z hz
          · rw [List.mem_singleton.1 hz]; simp only; omega
        · simp only
          rw [List.filter_append, List.filter_cons_of_pos (by simpa using he), ← h2]; rfl
      · rw [if_neg he]
        refine ⟨fun z hz => ?_, ?_, h3⟩
        · rcases List.mem_append.1 hz with hz | hz
          · exact h1 z hz
          · rw [List.mem_singleton.1 hz]; simp only; omega
        · simp only
          rw [List.filter_append, List.filter_cons_of_neg (by simpa using he), ← h2]; simp
theorem sumZ_len (z : List Nat) : sumZ (fun _ => 1) z = (z.length : Int) := by
  induction z with
  | nil => rfl
  | cons x z ih => have : sumZ (fun _ => 1) (x :: z) = 1 + sumZ (fun _ => 1) z := by simp [sumZ]
                   rw [this, ih, List.length_cons]; omega
theorem sumZ_neg (z : List Nat) : sumZ (fun _ => -1) z = -(z.length : Int) := by
  induction z with
  | nil => rfl
  | cons x z ih => have : sumZ (fun _ => -1) (x :: z) = -1 + sumZ (fun _ => -1) z := by simp [sumZ]
                   rw [this, ih, List.length_cons]; omega
def fstB (c : List Nat → Int) (zs : List (List Nat)) : List Nat := (bestF c zs).1.getD 0 []
theorem bestF_all {c : List Nat → Int} {zs : List (List Nat)} {z : List Nat} (h : z ∈ (bestF c zs).1) : z ∈ zs ∧ c z = (bestF c zs).2 := by
  rcases bestF_inv c zs with ⟨rfl, h1⟩ | ⟨_, h2, _⟩
  · rw [h1] at h; cases h
  · rw [h2] at h
    have := List.mem_filter.1 h
    exact ⟨this.1, by simpa using this.2⟩
theorem fstB_mem {c : List Nat → Int} {zs : List (List Nat)} (h : zs ≠ []) : fstB c zs ∈ (bestF c zs).1 := by
  unfold fstB
  exact getD_mem (List.length_pos_iff.2 (bestF_ne h))
theorem fstB_cost {c : List Nat → Int} {zs : List (List Nat)} (h : zs ≠ []) : c (fstB c zs) = (bestF c zs).2 := (bestF_all (fstB_mem h)).2
theorem bestF_le {c : List Nat → Int} {zs : List (List Nat)} {z : List Nat} (h : z ∈ zs) : (bestF c zs).2 ≤ c z := by
  rcases bestF_inv c zs with ⟨rfl, h1⟩ | ⟨h1, _, _⟩
  · cases h
  · exact h1 z h
end Go.Proofs.YtcfffhkabhmkmaaDoor.Ps

/- As few posts guard as places can be apart; at most half of the places; a place more. -/
namespace Go.Proofs.YtcfffhkabhmkmaaDoor.Ps
open Go Go.Abs Go.Mth
set_option linter.unusedVariables false
set_option linter.unusedSimpArgs false
def selL (n : Nat) (f : Nat → Bool) : List Nat := (List.range n).filter f
def cnt (n : Nat) (f : Nat → Bool) : Nat := (selL n f).length
theorem selL_asc (n : Nat) (f : Nat → Bool) : AscN n (selL n f) := ⟨List.pairwise_lt_range.sublist List.filter_sublist, fun x hx => List.mem_range.1 (List.mem_filter.1 hx).1⟩
theorem mem_selL {n : Nat} {f : Nat → Bool} {x : Nat} : x ∈ selL n f ↔ x < n ∧ f x = true := by simp [selL]
theorem cnt_succ (n : Nat) (f : Nat → Bool) : cnt (n + 1) f = cnt n f + if f n = true then 1 else 0 := by
  unfold cnt selL
  rw [List.range_succ, List.filter_append, List.length_append]
  by_cases h : f n = true
  · rw [if_pos h, List.filter_cons_of_pos h]; rfl
  · rw [if_neg h, List.filter_cons_of_neg h]; rfl
theorem cnt_le {f g : Nat → Bool} : ∀ {n : Nat}, (∀ x, x < n → f x = true → g x = true) → cnt n f ≤ cnt n g
  | 0, _ => by simp [cnt, selL]
  | n + 1, h => by
    have h1 := cnt_le (n := n) fun x hx => h x (by omega)
    rw [cnt_succ, cnt_succ]
    by_cases hf : f n = true
    · rw [if_pos hf, if_pos (h n (by omega) hf)]; omega
    · rw [if_neg hf]; omega
theorem cnt_or {f : Nat → Bool} {p : Nat} : ∀ {n : Nat}, cnt n (fun x => f x || decide (x = p)) ≤ cnt n f + 1 ∧ (n ≤ p → cnt n (fun x => f x || decide (x = p)) = cnt n f)
  | 0 => by simp [cnt, selL]
  | n + 1 => by
    obtain ⟨h1, h2⟩ := cnt_or (f := f) (p := p) (n := n)
    rw [cnt_succ, cnt_succ]
    by_cases e : n = p
    · have := h2 (by omega)
      rw [this]
      refine ⟨?_, fun h => by omega⟩
      split <;> split <;> omega
    · have e2 : (f n || decide (n = p)) = f n := by simp [e]
      rw [e2]
      refine ⟨by omega, fun h => by rw [h2 (by omega)]⟩
theorem cnt_mem {l : List Nat} {n : Nat} : cnt n (fun x => decide (x ∈ l)) ≤ l.length := by
  induction l with
  | nil =>
    have : selL n (fun x => decide (x ∈ ([] : List Nat))) = [] := List.filter_eq_nil_iff.2 (by simp)
    rw [cnt, this]; exact Nat.le_refl _
  | cons a l ih =>
    have h1 : cnt n (fun x => decide (x ∈ a :: l)) ≤ cnt n (fun x => decide (x ∈ l) || decide (x = a)) := cnt_le fun x _ hx => by
      simp only [decide_eq_true_eq, List.mem_cons] at hx
      simp only [Bool.or_eq_true, decide_eq_true_eq]
      exact hx.symm
    have h2 := (cnt_or (f := fun x => decide (x ∈ l)) (p := a) (n := n)).1
    rw [List.length_cons]; omega
theorem cnt_not (n : Nat) (f : Nat → Bool) : cnt n f + cnt n (fun x => !f x) = n := by
  induction n with
  | zero => simp [cnt, selL]
  | succ n ih =>
    rw [cnt_succ, cnt_succ]
    cases f n <;> simp <;> omega
theorem asc_sel {n : Nat} {l : List Nat} (h : AscN n l) : l = selL n (fun x => decide (x ∈ l)) := by
  have hs := selL_asc n fun x => decide (x ∈ l)
  have key : ∀ {a b : List Nat}, a.Pairwise (· < ·) → b.Pairwise (· < ·) → (∀ x, x ∈ a ↔ x ∈ b) → a = b := by
    intro a
    induction a with
    | nil =>
      intro b _ _ hm
      cases b with
      | nil => rfl
      | cons y b => exact absurd ((hm y).2 (by simp)) (by simp)
    | cons x a ih =>
      intro b h1 h2 hm
      cases b with
      | nil => exact absurd ((hm x).1 (by simp)) (by simp)
      | cons y b =>
        obtain ⟨k1, k2⟩ := List.pairwise_cons.1 h1
        obtain ⟨k3, k4⟩ := List.pairwise_cons.1 h2
        have hxy : x = y := by
          rcases List.mem_cons.1 ((hm x).1 (by simp)) with e | e
          · exact e
          · rcases List.mem_cons.1 ((hm y).2 (by simp)) with e2 | e2
            · exact e2.symm
            · have := k3 x e; have := k1 y e2; omega
        subst hxy
        rw [ih k2 k4 fun z => ?_]
        constructor
        · intro hz
          rcases List.mem_cons.1 ((hm z).1 (by simp [hz])) with e | e
          · have := k1 z hz; omega
          · exact e
        · intro hz
          rcases List.mem_cons.1 ((hm z).2 (by simp [hz])) with e | e
          · have := k3 z hz; omega
          · exact e
  refine key h.asc hs.asc fun x => ?_
  rw [mem_selL, decide_eq_true_eq]
  exact ⟨fun hx => ⟨h.lt x hx, hx⟩, fun hx => hx.2⟩
def few (xs : List Int) : List Nat := (fewB xs).getD 0 []
def far (xs : List Int) : List Nat := (aptB xs).getD 0 []
theorem few_mem (xs : List Int) : few xs ∈ grdL xs := (bestF_all (fstB_mem (grdL_ne xs))).1
theorem far_mem (xs : List Int) : far xs ∈ aptL xs := (bestF_all (fstB_mem (aptL_ne xs))).1
theorem few_grd (xs : List Int) : AscN xs.length (few xs) ∧ grd xs (few xs) = true := ⟨grdL_asc _ (few_mem xs), (List.mem_filter.1 (few_mem xs)).2⟩
theorem far_apt (xs : List Int) : AscN xs.length (far xs) ∧ apt xs (far xs) = true := ⟨aptL_asc _ (far_mem xs), (List.mem_filter.1 (far_mem xs)).2⟩
theorem few_le {xs : List Int} {z : List Nat} (h : AscN xs.length z) (hg : grd xs z = true) : (few xs).length ≤ z.length := by
  have h1 := bestF_le (c := sumZ fun _ => 1) (zs := grdL xs) (z := z) (List.mem_filter.2 ⟨mem_allA.2 h, hg⟩)
  have h2 := fstB_cost (c := sumZ fun _ => 1) (grdL_ne xs)
  have e : fstB (sumZ fun _ => 1) (grdL xs) = few xs := rfl
  rw [← h2, e, sumZ_len, sumZ_len] at h1
  omega
theorem far_ge {xs : List Int} {z : List Nat} (h : AscN xs.length z) (hg : apt xs z = true) : z.length ≤ (far xs).length := by
  have h1 := bestF_le (c := sumZ fun _ => -1) (zs := aptL xs) (z := z) (List.mem_filter.2 ⟨mem_allA.2 h, hg⟩)
  have h2 := fstB_cost (c := sumZ fun _ => -1) (aptL_ne xs)
  have e : fstB (sumZ fun _ => -1) (aptL xs) = far xs := rfl
  rw [← h2, e, sumZ_neg, sumZ_neg] at h1
  omega
theorem few_cnt {xs : List Int} {f : Nat → Bool} (h : ∀ i, i < xs.length → ∃ p, p < xs.length ∧ f p = true ∧ adj xs p i = true) : (few xs).length ≤ cnt xs.length f := by
  refine few_le (selL_asc _ f) (grd_iff.2 fun i hi => ?_)
  obtain ⟨p, h1, h2, h3⟩ := h i hi
  exact ⟨p, mem_selL.2 ⟨h1, h2⟩, h3⟩
/-! No places that are apart are more than posts that guard. -/
theorem weak {xs : List Int} : ∀ {l m : List Nat}, l.Pairwise (fun a b => hm xs a &&& hm xs b = 0) → (∀ x ∈ l, ∃ p ∈ m, p < xs.length ∧ adj xs p x = true) → l.length ≤ m.length
  | [], m, _, _ => by simp
  | x :: l, m, h1, h2 => by
    obtain ⟨k1, k2⟩ := List.pairwise_cons.1 h1
    obtain ⟨p, hp, hpn, ha⟩ := h2 x (by simp)
    have h3 : ∀ y ∈ l, ∃ q ∈ m.erase p, q < xs.length ∧ adj xs q y = true := fun y hy => by
      obtain ⟨q, hq, hqn, hb⟩ := h2 y (by simp [hy])
      refine ⟨q, (List.mem_erase_of_ne ?_).2 hq, hqn, hb⟩
      rintro rfl
      refine and_zero.1 (k1 y hy) q ⟨hm_bit.2 ⟨hqn, ?_⟩, hm_bit.2 ⟨hqn, ?_⟩⟩
      · rw [adj_comm]; exact ha
      · rw [adj_comm]; exact hb
    have := weak k2 h3
    rw [List.length_erase_of_mem hp] at this
    have := List.length_pos_of_mem hp
    rw [List.length_cons]; omega
theorem apt_le_grd {xs : List Int} {l m : List Nat} (hl : AscN xs.length l) (hm' : AscN xs.length m) (h1 : apt xs l = true) (h2 : grd xs m = true) : l.length ≤ m.length :=
  weak (of_decide_eq_true h1) fun x hx => by
    obtain ⟨p, hp, ha⟩ := grd_iff.1 h2 x (hl.lt x hx)
    exact ⟨p, hp, hm'.lt p hp, ha⟩
/-! From the places farthest out: where no post is at hand, one behind it. -/
def gr (xs : List Int) : Nat → List Nat × List Nat
  | 0 => ([], [])
  | d + 1 => if (gr xs d).1.any (fun p => adj xs p (xs.length - 1 - d)) = true then gr xs d else ((xs.getD (xs.length - 1 - d) 0).toNat :: (gr xs d).1, (xs.length - 1 - d) :: (gr xs d).2)
theorem gr_inv {xs : List Int} (hx : OKS xs) : ∀ d, d ≤ xs.length → (gr xs d).1.length = (gr xs d).2.length ∧ (∀ i, xs.length - d ≤ i → i < xs.length → ∃ p ∈ (gr xs d).1, adj xs p i = true) ∧ (gr xs d).2.Pairwise (· < ·) ∧ (∀ x ∈ (gr xs d).2, xs.length - d ≤ x ∧ x < xs.length) ∧
    (∀ x ∈ (gr xs d).2, (xs.getD x 0).toNat ∈ (gr xs d).1) ∧ (∀ p ∈ (gr xs d).1, p < xs.length) ∧ (gr xs d).2.Pairwise (fun a b => hm xs a &&& hm xs b = 0)
  | 0, _ => by
    refine ⟨rfl, fun i h1 h2 => by omega, by simp [gr], by simp [gr], by simp [gr], by simp [gr], by simp [gr]⟩
  | d + 1, hd => by
    obtain ⟨h1, h2, h3, h4, h5, h6, h7⟩ := gr_inv hx d (by omega)
    obtain ⟨i, hi⟩ : ∃ i, xs.length - 1 - d = i := ⟨_, rfl⟩
    have hin : i < xs.length := by omega
    have hir : xs.length - (d + 1) = i := by omega
    have hpar : (xs.getD i 0).toNat < xs.length ∧ (1 ≤ i → xs.getD i 0 = ((xs.getD i 0).toNat : Int) ∧ (xs.getD i 0).toNat < i) ∧ adj xs (xs.getD i 0).toNat i = true := by
      by_cases e : i = 0
      · subst e
        rw [hx.root]
        exact ⟨by simpa using hin, fun h => absurd h (by omega), adj_self _ _⟩
      · have := hx.par i (by omega) hin
        exact ⟨by omega, fun _ => ⟨by omega, by omega⟩, adj_iff.2 (.inr (.inr (by omega)))⟩
    rw [gr, hi]
    by_cases hany : (gr xs d).1.any (fun p => adj xs p i) = true
    · rw [if_pos hany]
      refine ⟨h1, fun j hj1 hj2 => ?_, h3, fun x hx' => ⟨by have := h4 x hx'; omega, (h4 x hx').2⟩, h5, h6, h7⟩
      by_cases e : j = i
      · subst e
        obtain ⟨p, hp, ha⟩ := List.any_eq_true.1 hany
        exact ⟨p, hp, ha⟩
      · exact h2 j (by omega) hj2
    · rw [if_neg hany]
      have hno : ∀ p ∈ (gr xs d).1, adj xs p i = false := fun p hp => by
        cases h : adj xs p i with
        | false => rfl
        | true => exact absurd (List.any_eq_true.2 ⟨p, hp, h⟩) hany
      generalize gr xs d = s at h1 h2 h3 h4 h5 h6 h7 hno ⊢
      obtain ⟨D, P⟩ := s
      simp only at h1 h2 h3 h4 h5 h6 h7 hno ⊢
      refine ⟨by simp [h1], fun j hj1 hj2 => ?_, List.pairwise_cons.2 ⟨fun x hx' => by have := h4 x hx'; omega, h3⟩, fun x hx' => ?_, fun x hx' => ?_, fun p hp => ?_, List.pairwise_cons.2 ⟨fun x hx' => ?_, h7⟩⟩
      · by_cases e : j = i
        · subst e; exact ⟨_, by simp, hpar.2.2⟩
        · obtain ⟨p, hp, ha⟩ := h2 j (by omega) hj2
          exact ⟨p, by simp [hp], ha⟩
      · rcases List.mem_cons.1 hx' with rfl | hx'
        · exact ⟨by omega, hin⟩
        · have := h4 x hx'; exact ⟨by omega, this.2⟩
      · rcases List.mem_cons.1 hx' with rfl | hx'
        · simp
        · exact List.mem_cons_of_mem _ (h5 x hx')
      · rcases List.mem_cons.1 hp with rfl | hp
        · exact hpar.1
        · exact h6 p hp
      · have hxi := h4 x hx'
        have hlt : i < x := by omega
        have hxp := hx.par x (by omega) hxi.2
        have hpD := h5 x hx'
        have hpn := hno _ hpD
        rw [and_zero]
        rintro y ⟨hy1, hy2⟩
        obtain ⟨hyn, hy1⟩ := hm_bit.1 hy1
        obtain ⟨_, hy2⟩ := hm_bit.1 hy2
        have hyr : ∀ a : Nat, xs.getD y 0 = (a : Int) → a < y := fun a ha => by
          by_cases e : y = 0
          · subst e; rw [hx.root] at ha; omega
          · have := hx.par y (by omega) hyn; omega
        have hir2 : ∀ a : Nat, xs.getD i 0 = (a : Int) → a < i := fun a ha => by
          by_cases e : i = 0
          · subst e; rw [hx.root] at ha; omega
          · have := hx.par i (by omega) hin; omega
        have hbad : ∀ q : Nat, xs.getD x 0 = (q : Int) → adj xs q i = true → False := fun q hq ha => by
          have : (xs.getD x 0).toNat = q := by omega
          rw [this] at hpn
          rw [ha] at hpn
          cases hpn
        rcases adj_iff.1 hy2 with e | e | e
        · subst e
          rcases adj_iff.1 hy1 with f | f | f
          · omega
          · have := hir2 _ f; omega
          · exact hbad i f (adj_self _ _)
        · exact hbad y e (by rw [adj_comm]; exact hy1)
        · have h8 := hyr x e
          rcases adj_iff.1 hy1 with f | f | f
          · omega
          · have := hir2 _ f; omega
          · omega
theorem strong {xs : List Int} (hx : OKS xs) : (few xs).length = (far xs).length := by
  obtain ⟨h1, h2, h3, h4, h5, h6, h7⟩ := gr_inv hx xs.length (Nat.le_refl _)
  have k1 : (few xs).length ≤ (gr xs xs.length).1.length := by
    refine Nat.le_trans (few_cnt (f := fun x => decide (x ∈ (gr xs xs.length).1)) fun i hi => ?_) cnt_mem
    obtain ⟨p, hp, ha⟩ := h2 i (by omega) hi
    exact ⟨p, h6 p hp, decide_eq_true hp, ha⟩
  have k2 : (gr xs xs.length).2.length ≤ (far xs).length := far_ge ⟨h3, fun x hx' => (h4 x hx').2⟩ (decide_eq_true h7)
  have k3 := apt_le_grd (far_apt xs).1 (few_grd xs).1 (far_apt xs).2 (few_grd xs).2
  omega
theorem col_ex {xs : List Int} (hx : OKS xs) : ∀ k, k ≤ xs.length → ∃ col : Nat → Bool, ∀ i, 1 ≤ i → i < k → col i = !col (xs.getD i 0).toNat
  | 0, _ => ⟨fun _ => false, fun i h1 h2 => by omega⟩
  | k + 1, hk => by
    obtain ⟨col, hc⟩ := col_ex hx k (by omega)
    refine ⟨fun j => if j = k then !col (xs.getD k 0).toNat else col j, fun i h1 h2 => ?_⟩
    have hp := hx.par i h1 (by omega)
    by_cases e : i = k
    · subst e
      simp only [if_pos]
      rw [if_neg (by omega)]
    · simp only
      rw [if_neg e, if_neg (by omega)]
      exact hc i h1 (by omega)
theorem half {xs : List Int} (hx : OKS xs) (h2 : 2 ≤ xs.length) : 2 * (few xs).length ≤ xs.length := by
  obtain ⟨col, hc⟩ := col_ex hx xs.length (Nat.le_refl _)
  have key : ∀ i, i < xs.length → ∃ q, q < xs.length ∧ col q = (!col i) ∧ adj xs q i = true := fun i hi => by
    by_cases e : i = 0
    · subst e
      have hp := hx.par 1 (by omega) (by omega)
      have h1 := hc 1 (by omega) (by omega)
      have e1 : (xs.getD 1 0).toNat = 0 := by omega
      rw [e1] at h1
      exact ⟨1, by omega, h1, adj_iff.2 (.inr (.inl (by omega)))⟩
    · have hp := hx.par i (by omega) hi
      have h1 := hc i (by omega) hi
      exact ⟨(xs.getD i 0).toNat, by omega, by rw [h1, Bool.not_not], adj_iff.2 (.inr (.inr (by omega)))⟩
  have g1 := few_cnt (xs := xs) (f := col) fun i hi => by
    cases hci : col i with
    | true => exact ⟨i, hi, hci, adj_self _ _⟩
    | false =>
      obtain ⟨q, h1, h3, h4⟩ := key i hi
      exact ⟨q, h1, by rw [h3, hci]; rfl, h4⟩
  have g2 := few_cnt (xs := xs) (f := fun x => !col x) fun i hi => by
    cases hci : col i with
    | false => exact ⟨i, hi, by simp [hci], adj_self _ _⟩
    | true =>
      obtain ⟨q, h1, h3, h4⟩ := key i hi
      exact ⟨q, h1, by simp [h3, hci], h4⟩
  have := cnt_not xs.length col
  omega
end Go.Proofs.YtcfffhkabhmkmaaDoor.Ps

/- Sets by numbers are lists of places; the first of the best lists. -/
namespace Go.Proofs.YtcfffhkabhmkmaaDoor.Ps
open Go Go.Abs Go.Mth
set_option linter.unusedVariables false
set_option linter.unusedSimpArgs false
def ordN (l m : List Nat) : Prop := l.length < m.length ∨ (l.length = m.length ∧ lexN l m)
instance ordN_dec (l m : List Nat) : Decidable (ordN l m) := by unfold ordN; infer_instance
theorem ordN_irr (l : List Nat) : ¬ ordN l l := by
  rintro (h | ⟨_, h⟩)
  · exact Nat.lt_irrefl _ h
  · exact lexN_irr l h
theorem ordN_tri {l m : List Nat} (h : l ≠ m) : ordN l m ∨ ordN m l := by
  rcases Nat.lt_trichotomy l.length m.length with e | e | e
  · exact .inl (.inl e)
  · rcases lexN_tri h with k | k
    · exact .inl (.inr ⟨e, k⟩)
    · exact .inr (.inr ⟨e.symm, k⟩)
  · exact .inr (.inl e)
theorem lexN_trans : ∀ {a b c : List Nat}, lexN a b → lexN b c → lexN a c := fun {a b c} h1 h2 => lexN_C.1 (lex_trans _ _ _ (lexN_C.2 h1) (lexN_C.2 h2))
theorem ordN_trans {a b c : List Nat} (h1 : ordN a b) (h2 : ordN b c) : ordN a c := by
  rcases h1 with h1 | ⟨h1, h3⟩ <;> rcases h2 with h2 | ⟨h2, h4⟩
  · exact .inl (by omega)
  · exact .inl (by omega)
  · exact .inl (by omega)
  · exact .inr ⟨by omega, lexN_trans h3 h4⟩
def lonN (l m : List Nat) : Prop := m.length < l.length ∨ (l.length = m.length ∧ lexN l m)
instance lonN_dec (l m : List Nat) : Decidable (lonN l m) := by unfold lonN; infer_instance
theorem lonN_irr (l : List Nat) : ¬ lonN l l := by
  rintro (h | ⟨_, h⟩)
  · exact Nat.lt_irrefl _ h
  · exact lexN_irr l h
theorem lonN_tri {l m : List Nat} (h : l ≠ m) : lonN l m ∨ lonN m l := by
  rcases Nat.lt_trichotomy l.length m.length with e | e | e
  · exact .inr (.inl e)
  · rcases lexN_tri h with k | k
    · exact .inl (.inr ⟨e, k⟩)
    · exact .inr (.inr ⟨e.symm, k⟩)
  · exact .inl (.inl e)
theorem lonN_trans {a b c : List Nat} (h1 : lonN a b) (h2 : lonN b c) : lonN a c := by
  rcases h1 with h1 | ⟨h1, h3⟩ <;> rcases h2 with h2 | ⟨h2, h4⟩
  · exact .inl (by omega)
  · exact .inl (by omega)
  · exact .inl (by omega)
  · exact .inr ⟨by omega, lexN_trans h3 h4⟩
theorem fst_least {c : List Nat → Int} {zs : List (List Nat)} (hs : zs.Pairwise lexN) {z : List Nat} (hz : z ∈ zs) (hc : c z = (bestF c zs).2) : z = fstB c zs ∨ lexN (fstB c zs) z := by
  rcases bestF_inv c zs with ⟨rfl, _⟩ | ⟨_, h2, h3⟩
  · cases hz
  · have hm : z ∈ (bestF c zs).1 := by rw [h2]; exact List.mem_filter.2 ⟨hz, by simpa using hc⟩
    have hp : (bestF c zs).1.Pairwise lexN := by rw [h2]; exact hs.sublist List.filter_sublist
    unfold fstB
    cases hB : (bestF c zs).1 with
    | nil => exact absurd hB h3
    | cons b B =>
      rw [hB] at hm hp
      rcases List.mem_cons.1 hm with e | e
      · exact .inl e
      · exact .inr ((List.pairwise_cons.1 hp).1 z e)
theorem few_first {xs : List Int} {z : List Nat} (h : AscN xs.length z) (hg : grd xs z = true) : ¬ ordN z (few xs) := by
  have hz : z ∈ grdL xs := List.mem_filter.2 ⟨mem_allA.2 h, hg⟩
  have hs : (grdL xs).Pairwise lexN := (allA_sorted _).sublist List.filter_sublist
  have hle := few_le h hg
  have h2 := fstB_cost (c := sumZ fun _ => 1) (grdL_ne xs)
  have e : fstB (sumZ fun _ => 1) (grdL xs) = few xs := rfl
  rw [e, sumZ_len] at h2
  rintro (hl | ⟨hl, hx⟩)
  · omega
  · rcases fst_least (c := sumZ fun _ => 1) hs hz (by rw [sumZ_len, ← h2, hl]) with k | k
    · rw [e] at k; rw [k] at hx; exact lexN_irr _ hx
    · rw [e] at k; exact lexN_asym hx k
theorem far_first {xs : List Int} {z : List Nat} (h : AscN xs.length z) (hg : apt xs z = true) : ¬ lonN z (far xs) := by
  have hz : z ∈ aptL xs := List.mem_filter.2 ⟨mem_allA.2 h, hg⟩
  have hs : (aptL xs).Pairwise lexN := (allA_sorted _).sublist List.filter_sublist
  have hle := far_ge h hg
  have h2 := fstB_cost (c := sumZ fun _ => -1) (aptL_ne xs)
  have e : fstB (sumZ fun _ => -1) (aptL xs) = far xs := rfl
  rw [e, sumZ_neg] at h2
  rintro (hl | ⟨hl, hx⟩)
  · omega
  · rcases fst_least (c := sumZ fun _ => -1) hs hz (by rw [sumZ_neg, ← h2, hl]) with k | k
    · rw [e] at k; rw [k] at hx; exact lexN_irr _ hx
    · rw [e] at k; exact lexN_asym hx k
/-! Sets. -/
theorem plcL_sel (s : Nat) : plcL s 10 = selL 10 s.testBit := rfl
theorem set_lt {n s x : Nat} (hs : s < 2 ^ n) (h : s.testBit x = true) : x < n := by
  refine Nat.lt_of_not_le fun hc => ?_
  have := Nat.testBit_lt_two_pow (Nat.lt_of_lt_of_le hs (Nat.pow_le_pow_right (by omega) hc))
  rw [h] at this; cases this
theorem plcL_asc {n s : Nat} (hs : s < 2 ^ n) : AscN n (plcL s 10) := ⟨(selL_asc 10 s.testBit).asc, fun x hx => set_lt hs (plcL_lt hx).2⟩
theorem plcL_mem {n s x : Nat} (hn : n ≤ 10) (hs : s < 2 ^ n) : x ∈ plcL s 10 ↔ s.testBit x = true := by
  rw [plcL_sel, mem_selL]
  exact ⟨fun h => h.2, fun h => ⟨by have := set_lt hs h; omega, h⟩⟩
theorem plcL_mask {n : Nat} (hn : n ≤ 10) {z : List Nat} (h : AscN n z) : maskN z < 2 ^ n ∧ plcL (maskN z) 10 = z := by
  have h1 := mask_lt h.lt
  refine ⟨h1, ?_⟩
  have h10 : AscN 10 z := ⟨h.asc, fun x hx => by have := h.lt x hx; omega⟩
  rw [plcL_sel]
  refine Eq.trans ?_ (asc_sel h10).symm
  unfold selL
  refine List.filter_congr fun x hx => ?_
  rw [Bool.eq_iff_iff, decide_eq_true_eq, mask_bit]
theorem grdS_iff {xs : List Int} {s : Nat} (hn : xs.length ≤ 10) (hs : s < 2 ^ xs.length) : grdS xs s = grd xs (plcL s 10) := by
  rw [Bool.eq_iff_iff, grd_iff]
  unfold grdS
  rw [List.all_eq_true]
  constructor
  · intro h i hi
    have h1 := of_decide_eq_true (h i (List.mem_range.2 hi))
    refine Classical.byContradiction fun hc => h1 (and_zero.2 fun j hj => hc ⟨j, (plcL_mem hn hs).2 hj.2, ?_⟩)
    rw [adj_comm]; exact (hm_bit.1 hj.1).2
  · intro h i hi
    have hi' := List.mem_range.1 hi
    obtain ⟨p, hp, ha⟩ := h i hi'
    refine decide_eq_true fun h0 => and_zero.1 h0 p ⟨hm_bit.2 ⟨(plcL_asc hs).lt p hp, by rw [adj_comm]; exact ha⟩, (plcL_mem hn hs).1 hp⟩
def FewI (xs : List Int) (k : Nat) (fw : List Nat) (fo : Bool) : Prop := (fo = false ∧ fw = [] ∧ ∀ s, s < k → grdS xs s = false) ∨ (fo = true ∧ (∃ s, s < k ∧ grdS xs s = true ∧ fw = plcL s 10) ∧ ∀ s, s < k → grdS xs s = true → ¬ ordN (plcL s 10) fw)
def ManI (xs : List Int) (k : Nat) (mn : List Nat) : Prop := (mn = [] ∨ ∃ s, s < k ∧ apt xs (plcL s 10) = true ∧ mn = plcL s 10) ∧ ∀ s, s < k → apt xs (plcL s 10) = true → ¬ lonN (plcL s 10) mn
theorem FewI.keep {xs : List Int} {k : Nat} {fw : List Nat} {fo : Bool} (h : FewI xs k fw fo) (hn : grdS xs k = false ∨ (fo = true ∧ ¬ ordN (plcL k 10) fw)) : FewI xs (k + 1) fw fo := by
  rcases h with ⟨h1, h2, h3⟩ | ⟨h1, ⟨s, h2, h3, h4⟩, h5⟩
  · refine .inl ⟨h1, h2, fun s hs => ?_⟩
    by_cases e : s = k
    · rcases hn with hn | hn
      · rw [e]; exact hn
      · rw [h1] at hn; cases hn.1
    · exact h3 s (by omega)
  · refine .inr ⟨h1, ⟨s, by omega, h3, h4⟩, fun t ht hg => ?_⟩
    by_cases e : t = k
    · rcases hn with hn | hn
      · rw [e, hn] at hg; cases hg
      · rw [e]; exact hn.2
    · exact h5 t (by omega) hg
theorem FewI.take {xs : List Int} {k : Nat} {fw : List Nat} {fo : Bool} (h : FewI xs k fw fo) (hg : grdS xs k = true) (ho : fo = false ∨ ordN (plcL k 10) fw) : FewI xs (k + 1) (plcL k 10) true := by
  refine .inr ⟨rfl, ⟨k, by omega, hg, rfl⟩, fun t ht hgt hlt => ?_⟩
  by_cases e : t = k
  · rw [e] at hlt; exact ordN_irr _ hlt
  · rcases h with ⟨h1, h2, h3⟩ | ⟨h1, h2, h5⟩
    · rw [h3 t (by omega)] at hgt; cases hgt
    · rcases ho with ho | ho
      · rw [h1] at ho; cases ho
      · exact h5 t (by omega) hgt (ordN_trans hlt ho)
theorem ManI.keep {xs : List Int} {k : Nat} {mn : List Nat} (h : ManI xs k mn) (hn : apt xs (plcL k 10) = false ∨ ¬ lonN (plcL k 10) mn) : ManI xs (k + 1) mn := by
  obtain ⟨h1, h2⟩ := h
  refine ⟨h1.imp id fun ⟨s, a, b⟩ => ⟨s, by omega, b⟩, fun t ht hg => ?_⟩
  by_cases e : t = k
  · rcases hn with hn | hn
    · rw [e, hn] at hg; cases hg
    · rw [e]; exact hn
  · exact h2 t (by omega) hg
theorem ManI.take {xs : List Int} {k : Nat} {mn : List Nat} (h : ManI xs k mn) (hg : apt xs (plcL k 10) = true) (ho : lonN (plcL k 10) mn) : ManI xs (k + 1) (plcL k 10) := by
  refine ⟨.inr ⟨k, by omega, hg, rfl⟩, fun t ht hgt hlt => ?_⟩
  by_cases e : t = k
  · rw [e] at hlt; exact lonN_irr _ hlt
  · exact h.2 t (by omega) hgt (lonN_trans hlt ho)
theorem FewI.all {xs : List Int} (hn : xs.length ≤ 10) {fw : List Nat} {fo : Bool} (h : FewI xs (2 ^ xs.length) fw fo) : few xs = fw := by
  obtain ⟨g1, g2⟩ := few_grd xs
  obtain ⟨m1, m2⟩ := plcL_mask hn g1
  have hg : grdS xs (maskN (few xs)) = true := by rw [grdS_iff hn m1, m2]; exact g2
  rcases h with ⟨h1, h2, h3⟩ | ⟨h1, ⟨s, h2, h3, rfl⟩, h5⟩
  · rw [h3 _ m1] at hg; cases hg
  · refine Classical.byContradiction fun hc => ?_
    have h6 := h5 _ m1 hg
    rw [m2] at h6
    rcases ordN_tri hc with k | k
    · exact h6 k
    · exact few_first (plcL_asc h2) (by rw [← grdS_iff hn h2]; exact h3) k
theorem ManI.all {xs : List Int} (hn : xs.length ≤ 10) {mn : List Nat} (h : ManI xs (2 ^ xs.length) mn) : far xs = mn := by
  obtain ⟨g1, g2⟩ := far_apt xs
  obtain ⟨m1, m2⟩ := plcL_mask hn g1
  obtain ⟨h1, h5⟩ := h
  refine Classical.byContradiction fun hc => ?_
  have h6 := h5 _ m1 (by rw [m2]; exact g2)
  rw [m2] at h6
  rcases lonN_tri hc with k | k
  · exact h6 k
  · rcases h1 with rfl | ⟨s, h2, h3, rfl⟩
    · exact far_first ⟨by simp, by simp⟩ (by simp [apt]) k
    · exact far_first (plcL_asc h2) h3 k
end Go.Proofs.YtcfffhkabhmkmaaDoor.Ps

/- A place more; cheaper prices. -/
namespace Go.Proofs.YtcfffhkabhmkmaaDoor.Ps
open Go Go.Abs Go.Mth
set_option linter.unusedVariables false
set_option linter.unusedSimpArgs false
end Go.Proofs.YtcfffhkabhmkmaaDoor.Ps

/- The law PostPacked. -/
namespace Go.Proofs.YtcfffhkabhmkmaaDoor.Ps
open Go Go.Abs Go.Mth
set_option linter.unusedVariables false
set_option linter.unusedSimpArgs false
structure KP where
  k : Nat
  v5 : Value
  v6 : Value
  fw : List Nat
  mn : List Nat
  fo : Bool
  M : HL
  n : Nat
theorem IL_inj {a b : List Nat} (h : IL a = IL b) : a = b := by
  have := congrArg (List.map Int.toNat) h
  rwa [toNat_IL, toNat_IL] at this
attribute [local irreducible] gOK WS WC WR WD Ends FS YS OpV seqK blockK loopK midK retK rdK asgK rangeEnd sat Cell
section
variable {M : HL} {n0 : Nat} {H : Heap} {v w : Value}
theorem sameI_fs (hH : hasH M n0 H) {a b : List Int} (hS : Sl M 1 v (ints a)) (hU : Sl M 1 w (ints b)) (ha : a.length ≤ 100000) (hb : b.length ≤ 100000) :
    FS C 16 [v, w] H (fun e H' => e = .bool (decide (a = b)) ∧ H' = H) := by
  have hv := hS.one_
  have hw := hU.one_
  refine FS.intro (pf := pf16) rfl rfl rfl ?_
  repeat' (first | refine zP ?_ | refine zA ?_ | (refine zM ?_; intro _ _) | refine zX ?_ | (refine zC ?_; intro _ _ _ _) | (refine zS ?_; intro _ _) | (apply Ws <;> intro hg))
  refine WC.condP rfl (fun hne => ?_) (fun hne => ?_)
  · repeat' (first | refine zP ?_ | refine zA ?_ | (refine zM ?_; intro _ _) | refine zX ?_ | (refine zC ?_; intro _ _ _ _) | (refine zS ?_; intro _ _) | (apply Ws <;> intro hg))
    exact Ends.ret1 rfl ⟨by rw [decide_eq_false (fun h => by rw [h] at hne; exact hne rfl)], rfl⟩
  · have hle : a.length = b.length := by omega
    repeat' (first | refine zP ?_ | refine zA ?_ | (refine zM ?_; intro _ _) | refine zX ?_ | (refine zC ?_; intro _ _ _ _) | (refine zS ?_; intro _ _) | (apply Ws <;> intro hg))
    refine WC.loopX [(0, v), (1, w)] (fun k : Nat => [(5, .int .i64 (k : Int))]) [] (fun k H' => H' = H ∧ k ≤ a.length ∧ ∀ j, j < k → a.getD j 0 = b.getD j 0) (fun k => a.length - k) 0 (by repeat' (first | exact .nil | refine .cons rfl ?_)) rfl ⟨rfl, Nat.zero_le _, fun j h => absurd h (Nat.not_lt_zero _)⟩ ?_
    rintro k H' ⟨rfl, hk, hall⟩
    dsimp only [List.cons_append, List.nil_append]
    repeat' (first | refine zP ?_ | refine zA ?_ | (refine zM ?_; intro _ _) | refine zX ?_ | (refine zC ?_; intro _ _ _ _) | (refine zS ?_; intro _ _) | (apply Ws <;> intro hg))
    refine WC.condP rfl (fun hlt => ?_) (fun hlt => ?_)
    · have hk' : k < a.length := by omega
      have hkb : k < b.length := by omega
      repeat' (first | refine zP ?_ | refine zA ?_ | (refine zM ?_; intro _ _) | refine zX ?_ | (refine zC ?_; intro _ _ _ _) | (refine zS ?_; intro _ _))
      by_cases he : a.getD k 0 = b.getD k 0
      · repeat' (first | refine zP ?_ | refine zA ?_ | (refine zM ?_; intro _ _) | refine zX ?_ | (refine zC ?_; intro _ _ _ _) | (refine zS ?_; intro _ _) | refine zO ?_ | (apply Ws <;> intro hg))
        refine Ends.loop (k + 1) (by omega) (by repeat' (first | exact .nil | refine .cons rfl ?_)) rfl ⟨rfl, hk', fun j hj => ?_⟩
        by_cases e : j = k
        · rw [e]; exact he
        · exact hall j (by omega)
      · repeat' (first | refine zP ?_ | refine zA ?_ | (refine zM ?_; intro _ _) | refine zX ?_ | (refine zC ?_; intro _ _ _ _) | (refine zS ?_; intro _ _) | refine zO ?_ | (apply Ws <;> intro hg))
        exact Ends.ret1 rfl ⟨by rw [decide_eq_false (fun h => he (by rw [h]))], rfl⟩
    · have hkl : k = a.length := by omega
      subst hkl
      repeat' (first | refine zP ?_ | refine zA ?_ | (refine zM ?_; intro _ _) | refine zX ?_ | (refine zC ?_; intro _ _ _ _) | (refine zS ?_; intro _ _) | (apply Ws <;> intro hg))
      exact Ends.ret1 rfl ⟨by rw [decide_eq_true (ext_getD (a := 0) hle hall)], rfl⟩
theorem same_fs (hH : hasH M n0 H) {a b : List Nat} (hS : Sl M 1 v (nodes a)) (hU : Sl M 1 w (nodes b)) (ha : a.length ≤ 100000) (hb : b.length ≤ 100000) :
    FS C 16 [v, w] H (fun e H' => e = .bool (decide (a = b)) ∧ H' = H) := by
  refine (sameI_fs hH (a := IL a) (b := IL b) (by rw [← nodes_IL]; exact hS) (by rw [← nodes_IL]; exact hU) (by rw [IL_len]; exact ha) (by rw [IL_len]; exact hb)).mono ?_
  rintro e H' ⟨h1, h2⟩
  refine ⟨?_, h2⟩
  rw [h1]
  congr 1
  rw [decide_eq_decide]
  exact ⟨IL_inj, fun h => by rw [h]⟩
theorem smaller_fs (hH : hasH M n0 H) {a b : List Nat} (hS : Sl M 1 v (nodes a)) (hU : Sl M 1 w (nodes b)) (ha : a.length ≤ 1000) (hb : b.length ≤ 1000) (fo : Bool) :
    FS C 11 [v, w, .bool fo] H (fun e H' => e = .bool (!fo || decide (ordN a b)) ∧ H' = H) := by
  have hv := hS.one_
  have hw := hU.one_
  refine FS.intro (pf := pf11) rfl rfl rfl ?_
  cases fo with
  | false =>
    repeat' (first | refine zP ?_ | refine zA ?_ | (refine zM ?_; intro _ _) | refine zX ?_ | (refine zC ?_; intro _ _ _ _) | (refine zS ?_; intro _ _) | (apply Ws <;> intro hg))
    exact Ends.ret1 rfl ⟨rfl, rfl⟩
  | true =>
    by_cases h1 : a.length < b.length
    · repeat' (first | refine zP ?_ | refine zA ?_ | (refine zM ?_; intro _ _) | refine zX ?_ | (refine zC ?_; intro _ _ _ _) | (refine zS ?_; intro _ _) | refine zO ?_ | (apply Ws <;> intro hg))
      exact Ends.ret1 rfl ⟨by rw [decide_eq_true (show ordN a b from .inl h1)]; simp [h1], rfl⟩
    · by_cases h2 : a.length = b.length
      · have hC := lexN_C (l := a) (m := b)
        repeat' (first | refine zP ?_ | refine zA ?_ | (refine zM ?_; intro _ _) | refine zX ?_ | (refine zC ?_; intro _ _ _ _) | (refine zS ?_; intro _ _) | refine zO ?_ | (apply Ws <;> intro hg))
        refine WR.call (by first | exact gN | exact gS rfl) rfl rfl (CompareN_fs hH hS hU ha hb) ?_
        rintro _ _ ⟨rfl, rfl⟩
        generalize lexC (IL a) (IL b) = c at hC ⊢
        by_cases h3 : c < 0
        · repeat' (first | refine zP ?_ | refine zA ?_ | (refine zM ?_; intro _ _) | refine zX ?_ | (refine zC ?_; intro _ _ _ _) | (refine zS ?_; intro _ _) | refine zO ?_ | (apply Ws <;> intro hg))
          exact Ends.ret1 rfl ⟨by rw [decide_eq_true (show ordN a b from .inr ⟨h2, hC.1 h3⟩)]; simp [h3], rfl⟩
        · repeat' (first | refine zP ?_ | refine zA ?_ | (refine zM ?_; intro _ _) | refine zX ?_ | (refine zC ?_; intro _ _ _ _) | (refine zS ?_; intro _ _) | refine zO ?_ | (apply Ws <;> intro hg))
          exact Ends.ret1 rfl ⟨by rw [decide_eq_false (show ¬ ordN a b from fun h => by rcases h with h | h; exact h1 h; exact h3 (hC.2 h.2))]; simp [h3], rfl⟩
      · repeat' (first | refine zP ?_ | refine zA ?_ | (refine zM ?_; intro _ _) | refine zX ?_ | (refine zC ?_; intro _ _ _ _) | (refine zS ?_; intro _ _) | refine zO ?_ | (apply Ws <;> intro hg))
        exact Ends.ret1 rfl ⟨by rw [decide_eq_false (show ¬ ordN a b from fun h => by rcases h with h | h; exact h1 h; exact h2 h.1)]; rfl, rfl⟩
end
end Go.Proofs.YtcfffhkabhmkmaaDoor.Ps

/- The law PostPacked: its walk. -/
namespace Go.Proofs.YtcfffhkabhmkmaaDoor.Ps
open Go Go.Abs Go.Mth
set_option linter.unusedVariables false
set_option linter.unusedSimpArgs false
theorem use_tailR {C : CW} {nt : Nat} {α : Type} {P : α → Heap → Prop} {E : α → Env} {l : List POp} {K : St → Prop} {G : Prop} (tail : ∀ s H', P s H' → WR C nt l (E s) [] H' K) (main : (∀ s H', P s H' → WR C nt l (E s) [] H' K) → G) : G := main tail
attribute [local irreducible] gOK WS WC WR WD Ends FS YS OpV seqK blockK loopK midK retK rdK asgK rangeEnd sat Cell
section
variable {M : HL} {n0 : Nat} {H : Heap} {v w : Value}
set_option maxHeartbeats 8000000 in
theorem PostPacked_fs (hH : hasH M n0 H) {x : List Nat} (hxl : x.length = 11) (hx : ∀ y ∈ x, y ≤ 255) :
    FS C 3 [.agg (numsK .u8 x).toArray] H (fun e H' => e = .bool true) := by
  obtain ⟨x, by_, rfl⟩ : ∃ a l, x = a :: l := by
    cases x with
    | nil => simp at hxl
    | cons a l => exact ⟨a, l, rfl⟩
  have hbl : by_.length = 10 := by simpa using hxl
  have hx0 := hx x (by simp)
  have hb : ∀ y ∈ by_, y ≤ 255 := fun y hy => hx y (by simp [hy])
  have hsl : (numsK .u8 (x :: by_)).length = 11 := by simp [numsK, hbl]
  have hfin : ∀ {H' : Heap}, FS C 19 [] H' (fun e H'' => e = .bool true ∧ H'' = H') := fun {H'} => FS.works ⟨rfl, rfl⟩
  refine FS.intro (pf := pf3) rfl rfl rfl ?_
  refine WC.seq ?_
  refine WC.region ?_
  refine WR.boxA (cs := numsK .u8 (x :: by_)) (by first | exact gN | exact gS rfl) rfl hH rfl (numsK_one _) fun H1 hH1 => ?_
  clear hH
  repeat' (first | refine zP ?_ | refine zA ?_ | (refine zM ?_; intro _ _) | refine zX ?_ | (refine zC ?_; intro _ _ _ _) | (refine zS ?_; intro _ _) | (apply Ws <;> intro hg))
  refine WR.call (by first | exact gN | exact gS rfl) rfl rfl (made_fs (most := 9) hH1 hx0 hb hbl (by decide) (by decide)) ?_
  rintro _ H3 ⟨vs, vh, MS, MH, n3, rfl, hOs, hOh, hn3, hH3⟩
  have hmod := Nat.mod_lt x (show 0 < 9 by decide)
  obtain ⟨n, hn⟩ : ∃ n, 1 + x % 9 = n := ⟨_, rfl⟩
  rw [hn] at hOs hOh
  have hok := mkS_ok by_ (n := n) (by omega) (by omega)
  have hlen := mkS_len by_ n
  obtain ⟨X, hX⟩ : ∃ X, MS ++ (MH ++ ((n0, Ch.row 24 0 0 (numsK .u8 (x :: by_))) :: M)) = X := ⟨_, rfl⟩
  have hSs : Sl X 1 vs (ints (mkS by_ n)) := (hOs.sl []).mono fun q hq => by rw [List.append_nil] at hq; rw [← hX]; simp [hq]
  have hSh : Sl X 1 vh (numsK .u64 (hsL (mkS by_ n))) := (hOh.sl []).mono fun q hq => by rw [List.append_nil] at hq; rw [← hX]; simp [hq]
  rw [hX] at hH3
  clear hX hH1 hOs hOh hsl
  generalize mkS by_ n = xs at hok hlen hSs hSh
  have hvs := hSs.one_
  have hvh := hSh.one_
  have h10 : xs.length ≤ 10 := hok.most
  have hpw : 2 ^ n < 1024 := by show 2 ^ n < 2 ^ 10; exact Nat.pow_lt_pow_right (by omega) (by omega)
  subst hlen
  repeat' (first | refine zP ?_ | refine zA ?_ | (refine zM ?_; intro _ _) | refine zX ?_ | (refine zC ?_; intro _ _ _ _) | (refine zS ?_; intro _ _) | (apply Ws <;> intro hg))
  refine WR.op (by first | exact gN | exact gS rfl) rfl (OpV.shl1 rfl rfl (by show xs.length ≤ 64; omega) (lt64 hpw)) ?_
  repeat' (first | refine zP ?_ | refine zA ?_ | (refine zM ?_; intro _ _) | refine zX ?_ | (refine zC ?_; intro _ _ _ _) | (refine zS ?_; intro _ _) | (apply Ws <;> intro hg))
  refine WC.loopX [(3, vs), (4, vh), (21, .int .u64 ((2 ^ xs.length : Nat) : Int))] (fun z : KP => [(22, .int .u64 (z.k : Int)), (5, z.v5), (6, z.v6), (7, .bool z.fo)]) []
    (fun z H' => z.k ≤ 2 ^ xs.length ∧ FewI xs z.k z.fw z.fo ∧ ManI xs z.k z.mn ∧ Sl z.M 1 z.v5 (nodes z.fw) ∧ Sl z.M 1 z.v6 (nodes z.mn) ∧ z.fw.length ≤ 10 ∧ z.mn.length ≤ 10 ∧ (∀ q ∈ X, q ∈ z.M) ∧ hasH z.M z.n H') (fun z => 2 ^ xs.length - z.k)
    ⟨0, .slice none 0 0, .slice none 0 0, [], [], false, X, n3⟩ (by repeat' (first | exact .nil | refine .cons rfl ?_)) rfl ⟨Nat.zero_le _, .inl ⟨rfl, rfl, fun s hs => absurd hs (Nat.not_lt_zero _)⟩, ⟨.inl rfl, fun s hs => absurd hs (Nat.not_lt_zero _)⟩, .nil 0, .nil 0, Nat.zero_le _, Nat.zero_le _, fun q hq => hq, hH3⟩ ?_
  clear hH3
  rintro ⟨k, v5, v6, fw, mn, fo, Z, n4⟩ H4 ⟨hk, hF, hM, hS5, hS6, hfl, hml, hXZ, hH⟩
  simp only at hk hF hM hS5 hS6 hfl hml hXZ hH
  dsimp only [List.cons_append, List.nil_append]
  repeat' (first | refine zP ?_ | refine zA ?_ | (refine zM ?_; intro _ _) | refine zX ?_ | (refine zC ?_; intro _ _ _ _) | (refine zS ?_; intro _ _) | (apply Ws <;> intro hg))
  refine WC.condP rfl (fun hlt => ?_) (fun hlt => ?_)
  · have hk' : k < 2 ^ xs.length := by omega
    have hk10 : k < 1024 := by omega
    have hg := grdS_iff h10 hk'
    have hal := (plcL_asc hk').len
    repeat' (first | refine zP ?_ | refine zA ?_ | (refine zM ?_; intro _ _) | refine zX ?_ | (refine zC ?_; intro _ _ _ _) | (refine zS ?_; intro _ _) | (apply Ws <;> intro hg))
    refine WR.call (by first | exact gN | exact gS rfl) rfl rfl (members_fs hH hk10) ?_
    rintro v9 H5 ⟨Mx, n5, hO9, hn5, hH5⟩
    have hS9 := hO9.sl Z
    have hSh5 : Sl (Mx ++ Z) 1 vh (numsK .u64 (hsL xs)) := hSh.mono fun q hq => List.mem_append_right _ (hXZ q hq)
    replace hS5 := hS5.mono fun q hq => List.mem_append_right Mx hq
    replace hS6 := hS6.mono fun q hq => List.mem_append_right Mx hq
    replace hXZ : ∀ q ∈ X, q ∈ Mx ++ Z := fun q hq => List.mem_append_right _ (hXZ q hq)
    clear hH hO9
    generalize Mx ++ Z = Y at hH5 hS9 hSh5 hS5 hS6 hXZ
    have hv9 := hS9.one_
    have hv5 := hS5.one_
    repeat' (first | refine zP ?_ | refine zA ?_ | (refine zM ?_; intro _ _) | refine zX ?_ | (refine zC ?_; intro _ _ _ _) | (refine zS ?_; intro _ _) | (apply Ws <;> intro hg))
    refine WR.call (by first | exact gN | exact gS rfl) rfl rfl (guardsS_fs hH5 h10 hSh5 hk10) ?_
    rintro _ H6 ⟨rfl, hH6⟩
    clear hH5
    apply use_tailR (C := C) (nt := pf3.nt) (α := KP) (P := fun z H' => FewI xs (k + 1) z.fw z.fo ∧ Sl Y 1 z.v5 (nodes z.fw) ∧ z.fw.length ≤ 10 ∧ hasH Y z.n H')
      (E := fun z => [(37, vh), (38, .int .u64 (k : Int)), (3, vs), (4, vh), (21, .int .u64 ((2 ^ xs.length : Nat) : Int)), (22, .int .u64 (k : Int)), (8, .int .u64 (k : Int)), (9, v9), (5, z.v5), (6, v6), (7, .bool z.fo)])
    case main =>
      intro htail
      by_cases hgk : grdS xs k = true
      · rw [hgk]
        repeat' (first | refine zP ?_ | refine zA ?_ | (refine zM ?_; intro _ _) | refine zX ?_ | (refine zC ?_; intro _ _ _ _) | (refine zS ?_; intro _ _) | refine zO ?_ | (apply Ws <;> intro hg))
        refine WR.call (by first | exact gN | exact gS rfl) rfl rfl (smaller_fs hH6 hS9 hS5 (by omega) (by omega) fo) ?_
        rintro e34 H6b ⟨he34, hHe⟩
        have hH6b : hasH Y (n5 + 1) H6b := by rw [hHe]; exact hH6
        by_cases hsm : fo = false ∨ ordN (plcL k 10) fw
        · have e1 : e34 = .bool true := by
            rw [he34]
            rcases hsm with h | h
            · rw [h]; rfl
            · rw [decide_eq_true h]; simp
          rw [e1]
          repeat' (first | refine zP ?_ | refine zA ?_ | (refine zM ?_; intro _ _) | refine zX ?_ | (refine zC ?_; intro _ _ _ _) | (refine zS ?_; intro _ _) | refine zO ?_ | (apply Ws <;> intro hg))
          exact (htail ⟨0, v9, v9, plcL k 10, [], true, [], n5 + 1⟩ _ ⟨hF.take hgk hsm, hS9, by simp only; omega, hH6b⟩).weaken (by repeat' (first | exact .nil | refine .cons rfl ?_))
        · have h1 : fo = true := (Bool.not_eq_false fo).mp fun h => hsm (.inl h)
          have h2 : ¬ ordN (plcL k 10) fw := fun h => hsm (.inr h)
          have e1 : e34 = .bool false := by rw [he34, h1, decide_eq_false h2]; rfl
          rw [e1]
          repeat' (first | refine zP ?_ | refine zA ?_ | (refine zM ?_; intro _ _) | refine zX ?_ | (refine zC ?_; intro _ _ _ _) | (refine zS ?_; intro _ _) | refine zO ?_ | (apply Ws <;> intro hg))
          exact (htail ⟨0, v5, v5, fw, [], fo, [], n5 + 1⟩ _ ⟨hF.keep (.inr ⟨h1, h2⟩), hS5, hfl, hH6b⟩).weaken (by repeat' (first | exact .nil | refine .cons rfl ?_))
      · have hgf : grdS xs k = false := by simpa using hgk
        rw [hgf]
        repeat' (first | refine zP ?_ | refine zA ?_ | (refine zM ?_; intro _ _) | refine zX ?_ | (refine zC ?_; intro _ _ _ _) | (refine zS ?_; intro _ _) | refine zO ?_ | (apply Ws <;> intro hg))
        exact (htail ⟨0, v5, v5, fw, [], fo, [], n5 + 1⟩ _ ⟨hF.keep (.inl hgf), hS5, hfl, hH6⟩).weaken (by repeat' (first | exact .nil | refine .cons rfl ?_))
    case tail =>
      clear hF hS5 hfl hH6
      rintro ⟨_, v5, _, fw, _, fo, _, n6⟩ H7 ⟨hF, hS5, hfl, hH7⟩
      simp only at hF hS5 hfl hH7
      have hnext : ∀ {c : Int}, ((k + 1 : Nat) : Int) = (k : Int) + 1 := fun {_} => by omega
      have hadd : k + 1 < capK .u64 := by have : capK .u64 = 18446744073709551616 := by decide
                                          omega
      refine WR.call (by first | exact gN | exact gS rfl) rfl rfl (apartS_fs hH7 h10 hSh5 hk') ?_
      rintro _ H8 ⟨rfl, n8, hn8, hH8⟩
      clear hH7
      have hv6 := hS6.one_
      cases hap : apt xs (plcL k 10) with
      | false =>
        have hM2 := hM.keep (.inl hap)
        repeat' (first | refine zP ?_ | refine zA ?_ | (refine zM ?_; intro _ _) | refine zX ?_ | (refine zC ?_; intro _ _ _ _) | (refine zS ?_; intro _ _) | refine zO ?_ | (apply Ws <;> intro hg))
        refine WR.op (by first | exact gN | exact gS rfl) rfl (OpV.addN (b := 1) rfl rfl hadd) ?_
        repeat' (first | refine zP ?_ | refine zA ?_ | (refine zM ?_; intro _ _) | refine zX ?_ | (refine zC ?_; intro _ _ _ _) | (refine zS ?_; intro _ _) | refine zO ?_ | (apply Ws <;> intro hg))
        exact Ends.loop ⟨k + 1, v5, v6, fw, mn, fo, Y, n8⟩ (by simp only; omega) (by repeat' (first | exact .nil | refine .cons rfl ?_)) rfl ⟨hk', hF, hM2, hS5, hS6, hfl, hml, hXZ, hH8⟩
      | true =>
        by_cases h1 : mn.length < (plcL k 10).length
        · have hM2 := hM.take hap (.inl h1)
          repeat' (first | refine zP ?_ | refine zA ?_ | (refine zM ?_; intro _ _) | refine zX ?_ | (refine zC ?_; intro _ _ _ _) | (refine zS ?_; intro _ _) | refine zO ?_ | (apply Ws <;> intro hg))
          refine WR.op (by first | exact gN | exact gS rfl) rfl (OpV.addN (b := 1) rfl rfl hadd) ?_
          repeat' (first | refine zP ?_ | refine zA ?_ | (refine zM ?_; intro _ _) | refine zX ?_ | (refine zC ?_; intro _ _ _ _) | (refine zS ?_; intro _ _) | refine zO ?_ | (apply Ws <;> intro hg))
          exact Ends.loop ⟨k + 1, v5, v9, fw, plcL k 10, fo, Y, n8⟩ (by simp only; omega) (by repeat' (first | exact .nil | refine .cons rfl ?_)) rfl ⟨hk', hF, hM2, hS5, hS9, hfl, by simp only; omega, hXZ, hH8⟩
        · by_cases h2 : (plcL k 10).length = mn.length
          · have hC := lexN_C (l := plcL k 10) (m := mn)
            repeat' (first | refine zP ?_ | refine zA ?_ | (refine zM ?_; intro _ _) | refine zX ?_ | (refine zC ?_; intro _ _ _ _) | (refine zS ?_; intro _ _) | refine zO ?_ | (apply Ws <;> intro hg))
            refine WR.call (by first | exact gN | exact gS rfl) rfl rfl (CompareN_fs hH8 hS9 hS6 (by omega) (by omega)) ?_
            rintro _ _ ⟨rfl, rfl⟩
            generalize lexC (IL (plcL k 10)) (IL mn) = c at hC ⊢
            by_cases h3 : c < 0
            · have hM2 := hM.take hap (.inr ⟨h2, hC.1 h3⟩)
              repeat' (first | refine zP ?_ | refine zA ?_ | (refine zM ?_; intro _ _) | refine zX ?_ | (refine zC ?_; intro _ _ _ _) | (refine zS ?_; intro _ _) | refine zO ?_ | (apply Ws <;> intro hg))
              refine WR.op (by first | exact gN | exact gS rfl) rfl (OpV.addN (b := 1) rfl rfl hadd) ?_
              repeat' (first | refine zP ?_ | refine zA ?_ | (refine zM ?_; intro _ _) | refine zX ?_ | (refine zC ?_; intro _ _ _ _) | (refine zS ?_; intro _ _) | refine zO ?_ | (apply Ws <;> intro hg))
              exact Ends.loop ⟨k + 1, v5, v9, fw, plcL k 10, fo, Y, n8⟩ (by simp only; omega) (by repeat' (first | exact .nil | refine .cons rfl ?_)) rfl ⟨hk', hF, hM2, hS5, hS9, hfl, by simp only; omega, hXZ, hH8⟩
            · have hM2 := hM.keep (.inr fun h => by rcases h with h | h; exact h1 h; exact h3 (hC.2 h.2))
              repeat' (first | refine zP ?_ | refine zA ?_ | (refine zM ?_; intro _ _) | refine zX ?_ | (refine zC ?_; intro _ _ _ _) | (refine zS ?_; intro _ _) | refine zO ?_ | (apply Ws <;> intro hg))
              refine WR.op (by first | exact gN | exact gS rfl) rfl (OpV.addN (b := 1) rfl rfl hadd) ?_
              repeat' (first | refine zP ?_ | refine zA ?_ | (refine zM ?_; intro _ _) | refine zX ?_ | (refine zC ?_; intro _ _ _ _) | (refine zS ?_; intro _ _) | refine zO ?_ | (apply Ws <;> intro hg))
              exact Ends.loop ⟨k + 1, v5, v6, fw, mn, fo, Y, n8⟩ (by simp only; omega) (by repeat' (first | exact .nil | refine .cons rfl ?_)) rfl ⟨hk', hF, hM2, hS5, hS6, hfl, hml, hXZ, hH8⟩
          · have hM2 := hM.keep (.inr fun h => by rcases h with h | h; exact h1 h; exact h2 h.1)
            repeat' (first | refine zP ?_ | refine zA ?_ | (refine zM ?_; intro _ _) | refine zX ?_ | (refine zC ?_; intro _ _ _ _) | (refine zS ?_; intro _ _) | refine zO ?_ | (apply Ws <;> intro hg))
            refine WR.op (by first | exact gN | exact gS rfl) rfl (OpV.addN (b := 1) rfl rfl hadd) ?_
            repeat' (first | refine zP ?_ | refine zA ?_ | (refine zM ?_; intro _ _) | refine zX ?_ | (refine zC ?_; intro _ _ _ _) | (refine zS ?_; intro _ _) | refine zO ?_ | (apply Ws <;> intro hg))
            exact Ends.loop ⟨k + 1, v5, v6, fw, mn, fo, Y, n8⟩ (by simp only; omega) (by repeat' (first | exact .nil | refine .cons rfl ?_)) rfl ⟨hk', hF, hM2, hS5, hS6, hfl, hml, hXZ, hH8⟩
  · have hke : k = 2 ^ xs.length := by omega
    subst hke
    have hfw := hF.all h10
    have hmn := hM.all h10
    have hst := strong hok
    rw [hfw, hmn] at hst
    have hE0 := errS_zero.2 hok
    have hSsZ := hSs.mono hXZ
    have hhalf : ¬ xs.length < 2 → 2 * fw.length ≤ xs.length := fun h => by rw [← hfw]; exact half hok (by omega)
    have hGu : errG xs (IL fw) = 0 := by
      unfold errG
      have h1 : errL xs (IL fw) = 0 := errL_zero.2 ⟨hok, fw, rfl, by rw [← hfw]; exact (few_grd xs).1⟩
      rw [if_neg (by omega), toNat_IL, if_pos (by rw [← hfw]; exact (few_grd xs).2)]
    have hAp : errA xs (IL mn) = 0 := by
      unfold errA
      have h1 : errL xs (IL mn) = 0 := errL_zero.2 ⟨hok, mn, rfl, by rw [← hmn]; exact (far_apt xs).1⟩
      rw [if_neg (by omega), toNat_IL, if_pos (by rw [← hmn]; exact (far_apt xs).2)]
    clear hF hM
    repeat' (first | refine zP ?_ | refine zA ?_ | (refine zM ?_; intro _ _) | refine zX ?_ | (refine zC ?_; intro _ _ _ _) | (refine zS ?_; intro _ _) | (apply Ws <;> intro hg))
    refine WR.call (by first | exact gN | exact gS rfl) rfl rfl (Fewest_fs hH hSsZ (by omega)) ?_
    rintro _ H6 ⟨u6, M6, n6, rfl, hF6, hn6, hH6⟩
    rw [hE0] at hF6 ⊢
    rw [if_pos rfl] at hF6
    replace hF6 : Sl (M6 ++ Z) 1 u6 (nodes fw) := by rw [← hfw]; exact hF6
    replace hS5 := hS5.mono fun q hq => List.mem_append_right M6 hq
    replace hS6 := hS6.mono fun q hq => List.mem_append_right M6 hq
    replace hSsZ := hSsZ.mono fun q hq => List.mem_append_right M6 hq
    clear hH hXZ
    generalize M6 ++ Z = X6 at hH6 hF6 hS5 hS6 hSsZ
    repeat' (first | refine zP ?_ | refine zA ?_ | (refine zM ?_; intro _ _) | refine zX ?_ | (refine zC ?_; intro _ _ _ _) | (refine zS ?_; intro _ _) | (apply Ws <;> intro hg))
    refine WR.call (by first | exact gN | exact gS rfl) rfl rfl (Apart_fs hH6 hSsZ (by omega)) ?_
    rintro _ H7 ⟨u7, M7, n7, rfl, hF7, hn7, hH7⟩
    rw [hE0] at hF7 ⊢
    rw [if_pos rfl] at hF7
    replace hF7 : Sl (M7 ++ X6) 1 u7 (nodes mn) := by rw [← hmn]; exact hF7
    replace hF6 := hF6.mono fun q hq => List.mem_append_right M7 hq
    replace hS5 := hS5.mono fun q hq => List.mem_append_right M7 hq
    replace hS6 := hS6.mono fun q hq => List.mem_append_right M7 hq
    replace hSsZ := hSsZ.mono fun q hq => List.mem_append_right M7 hq
    clear hH6
    generalize M7 ++ X6 = X7 at hH7 hF6 hF7 hS5 hS6 hSsZ
    repeat' (first | refine zP ?_ | refine zA ?_ | (refine zM ?_; intro _ _) | refine zX ?_ | (refine zC ?_; intro _ _ _ _) | (refine zS ?_; intro _ _) | refine zO ?_ | (apply Ws <;> intro hg))
    refine WR.call (by first | exact gN | exact gS rfl) rfl rfl (same_fs hH7 hF6 hS5 (by omega) (by omega)) ?_
    rintro _ _ ⟨rfl, rfl⟩
    rw [decide_eq_true rfl]
    repeat' (first | refine zP ?_ | refine zA ?_ | (refine zM ?_; intro _ _) | refine zX ?_ | (refine zC ?_; intro _ _ _ _) | (refine zS ?_; intro _ _) | refine zO ?_ | (apply Ws <;> intro hg))
    refine WR.call (by first | exact gN | exact gS rfl) rfl rfl (same_fs hH7 hF7 hS6 (by omega) (by omega)) ?_
    rintro _ _ ⟨rfl, rfl⟩
    rw [decide_eq_true rfl]
    have hml2 : mn.length = fw.length := hst.symm
    by_cases hn2 : xs.length < 2
    · repeat' (first | refine zP ?_ | refine zA ?_ | (refine zM ?_; intro _ _) | refine zX ?_ | (refine zC ?_; intro _ _ _ _) | (refine zS ?_; intro _ _) | refine zO ?_ | (apply Ws <;> intro hg))
      have hU1 : Sl X7 1 u6 (ints (IL fw)) := by rw [← nodes_IL]; exact hF6
      have hU2 : Sl X7 1 u7 (ints (IL mn)) := by rw [← nodes_IL]; exact hF7
      refine WR.call (by first | exact gN | exact gS rfl) rfl rfl (Guards_fs hH7 hSsZ (by omega) hU1 (by rw [IL_len]; omega)) ?_
      rintro _ H8 ⟨rfl, n8, hn8, hH8⟩
      rw [hGu]
      repeat' (first | refine zP ?_ | refine zA ?_ | (refine zM ?_; intro _ _) | refine zX ?_ | (refine zC ?_; intro _ _ _ _) | (refine zS ?_; intro _ _) | refine zO ?_ | (apply Ws <;> intro hg))
      refine WR.call (by first | exact gN | exact gS rfl) rfl rfl (Proves_fs hH8 hSsZ (by omega) hU2 (by rw [IL_len]; omega)) ?_
      rintro _ H9 ⟨rfl, n9, hn9, hH9⟩
      rw [hAp]
      repeat' (first | refine zP ?_ | refine zA ?_ | (refine zM ?_; intro _ _) | refine zX ?_ | (refine zC ?_; intro _ _ _ _) | (refine zS ?_; intro _ _) | refine zO ?_ | (apply Ws <;> intro hg))
      refine WR.call (by first | exact gN | exact gS rfl) rfl rfl hfin ?_
      rintro _ _ ⟨rfl, rfl⟩
      repeat' (first | refine zP ?_ | refine zA ?_ | (refine zM ?_; intro _ _) | refine zX ?_ | (refine zC ?_; intro _ _ _ _) | (refine zS ?_; intro _ _) | refine zO ?_ | (apply Ws <;> intro hg))
      exact Ends.ret1 rfl rfl
    · have hh := hhalf hn2
      repeat' (first | refine zP ?_ | refine zA ?_ | (refine zM ?_; intro _ _) | refine zX ?_ | (refine zC ?_; intro _ _ _ _) | (refine zS ?_; intro _ _) | refine zO ?_ | (apply Ws <;> intro hg))
      have hU1 : Sl X7 1 u6 (ints (IL fw)) := by rw [← nodes_IL]; exact hF6
      have hU2 : Sl X7 1 u7 (ints (IL mn)) := by rw [← nodes_IL]; exact hF7
      refine WR.call (by first | exact gN | exact gS rfl) rfl rfl (Guards_fs hH7 hSsZ (by omega) hU1 (by rw [IL_len]; omega)) ?_
      rintro _ H8 ⟨rfl, n8, hn8, hH8⟩
      rw [hGu]
      repeat' (first | refine zP ?_ | refine zA ?_ | (refine zM ?_; intro _ _) | refine zX ?_ | (refine zC ?_; intro _ _ _ _) | (refine zS ?_; intro _ _) | refine zO ?_ | (apply Ws <;> intro hg))
      refine WR.call (by first | exact gN | exact gS rfl) rfl rfl (Proves_fs hH8 hSsZ (by omega) hU2 (by rw [IL_len]; omega)) ?_
      rintro _ H9 ⟨rfl, n9, hn9, hH9⟩
      rw [hAp]
      repeat' (first | refine zP ?_ | refine zA ?_ | (refine zM ?_; intro _ _) | refine zX ?_ | (refine zC ?_; intro _ _ _ _) | (refine zS ?_; intro _ _) | refine zO ?_ | (apply Ws <;> intro hg))
      refine WR.call (by first | exact gN | exact gS rfl) rfl rfl hfin ?_
      rintro _ _ ⟨rfl, rfl⟩
      repeat' (first | refine zP ?_ | refine zA ?_ | (refine zM ?_; intro _ _) | refine zX ?_ | (refine zC ?_; intro _ _ _ _) | (refine zS ?_; intro _ _) | refine zO ?_ | (apply Ws <;> intro hg))
      exact Ends.ret1 rfl rfl
end
end Go.Proofs.YtcfffhkabhmkmaaDoor.Ps
