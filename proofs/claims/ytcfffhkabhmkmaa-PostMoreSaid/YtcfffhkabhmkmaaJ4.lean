/- Texts of the law, joined. -/
import Derived.Test.YtcfffhkabhmkmaaJ3
/- Count, Cheapest, Guards, Proves, Hand. -/
namespace Go.Proofs.Ytcfffhkabhmkmaa.Ps
open Go Go.Abs Go.Mth
set_option linter.unusedVariables false
set_option linter.unusedSimpArgs false
attribute [local irreducible] gOK WS WC WR WD Ends FS YS OpV seqK blockK loopK midK retK rdK asgK rangeEnd sat Cell
section
variable {M : HL} {n0 : Nat} {H : Heap} {v w : Value}
theorem Cheapest_fs (hH : hasH M n0 H) {xs ps : List Int} (hS : Sl M 1 v (ints xs)) (hl : xs.length ≤ 100000) (hU : Sl M 1 w (ints ps)) (hpl : ps.length ≤ 100000) :
    FS C 22 [v, w] H (fun e H' => ∃ u M2 n', e = .tuple #[u, .int .i64 (errR xs ps)] ∧ Sl (M2 ++ M) 1 u (nodes (if errR xs ps = 0 then (prcB xs ps).getD 0 [] else [])) ∧ n0 ≤ n' ∧ hasH (M2 ++ M) n' H') := by
  have hw := hU.one_
  have hv := hS.one_
  refine FS.intro (pf := pf22) rfl rfl rfl ?_
  repeat' (first | refine zP ?_ | refine zA ?_ | (refine zM ?_; intro _ _) | refine zX ?_ | (refine zC ?_; intro _ _ _ _) | (refine zS ?_; intro _ _) | (apply Ws <;> intro hg))
  refine WR.call (by first | exact gN | exact gS rfl) rfl rfl (Check_fs hH hS hl) ?_
  rintro _ H1 ⟨rfl, rfl⟩
  repeat' (first | refine zP ?_ | refine zA ?_ | (refine zM ?_; intro _ _) | refine zX ?_ | (refine zC ?_; intro _ _ _ _) | (refine zS ?_; intro _ _) | (apply Ws <;> intro hg))
  refine WC.condP rfl (fun h0 => ?_) (fun h0 => ?_)
  · have hE : errR xs ps = errS xs := by unfold errR; rw [if_pos h0]
    repeat' (first | refine zP ?_ | refine zA ?_ | (refine zM ?_; intro _ _) | refine zX ?_ | (refine zC ?_; intro _ _ _ _) | (refine zS ?_; intro _ _) | (apply Ws <;> intro hg))
    exact Ends.ret2 rfl rfl ⟨_, [], n0, by rw [hE], by rw [hE, if_neg h0]; exact .nil 0, Nat.le_refl _, hH⟩
  · have h00 : errS xs = 0 := by omega
    have hx := errS_zero.1 h00
    have h10 := hx.most
    repeat' (first | refine zP ?_ | refine zA ?_ | (refine zM ?_; intro _ _) | refine zX ?_ | (refine zC ?_; intro _ _ _ _) | (refine zS ?_; intro _ _) | (apply Ws <;> intro hg))
    refine WC.condP rfl (fun hle => ?_) (fun hle => ?_)
    · have hE : errR xs ps = 5 := by unfold errR; rw [if_neg h0, if_pos (by omega)]
      repeat' (first | refine zP ?_ | refine zA ?_ | (refine zM ?_; intro _ _) | refine zX ?_ | (refine zC ?_; intro _ _ _ _) | (refine zS ?_; intro _ _) | (apply Ws <;> intro hg))
      exact Ends.ret2 rfl rfl ⟨_, [], n0, by rw [hE], by rw [hE, if_neg (by decide)]; exact .nil 0, Nat.le_refl _, hH⟩
    · have hlen : ps.length = xs.length := by omega
      have hER : errR xs ps = firstE (errC ps) ps.length := by unfold errR; rw [if_neg h0, if_neg (by omega)]
      repeat' (first | refine zP ?_ | refine zA ?_ | (refine zM ?_; intro _ _) | refine zX ?_ | (refine zC ?_; intro _ _ _ _) | (refine zS ?_; intro _ _) | (apply Ws <;> intro hg))
      refine WC.loopX [(0, v), (1, w), (19, w), (20, _)] (fun k : Nat => [(21, .int .i64 (k : Int))]) [] (fun k H' => H' = H1 ∧ k ≤ ps.length ∧ firstE (errC ps) k = 0) (fun k => ps.length - k) 0 (by repeat' (first | exact .nil | refine .cons rfl ?_)) rfl ⟨rfl, Nat.zero_le _, rfl⟩ ?_
      rintro k H' ⟨rfl, hk, hz⟩
      dsimp only [List.cons_append, List.nil_append]
      repeat' (first | refine zP ?_ | refine zA ?_ | (refine zM ?_; intro _ _) | refine zX ?_ | (refine zC ?_; intro _ _ _ _) | (refine zS ?_; intro _ _) | (apply Ws <;> intro hg))
      refine WC.condP rfl (fun hlt => ?_) (fun hlt => ?_)
      · have hk' : k < ps.length := by omega
        repeat' (first | refine zP ?_ | refine zA ?_ | (refine zM ?_; intro _ _) | refine zX ?_ | (refine zC ?_; intro _ _ _ _) | (refine zS ?_; intro _ _) | (apply Ws <;> intro hg))
        · have hE : errC ps k = 1 := by unfold errC; rw [if_pos (by omega)]
          rw [firstE_at hz (by rw [hE]; decide) hk', hE] at hER
          repeat' (first | refine zP ?_ | refine zA ?_ | (refine zM ?_; intro _ _) | refine zX ?_ | (refine zC ?_; intro _ _ _ _) | (refine zS ?_; intro _ _) | refine zO ?_ | (apply Ws <;> intro hg))
          exact Ends.ret2 rfl rfl ⟨_, [], n0, by rw [hER], by rw [hER, if_neg (by decide)]; exact .nil 0, Nat.le_refl _, hH⟩
        · refine WC.condP rfl (fun hgt => ?_) (fun hgt => ?_)
          · have hE : errC ps k = 1 := by unfold errC; rw [if_pos (by omega)]
            rw [firstE_at hz (by rw [hE]; decide) hk', hE] at hER
            repeat' (first | refine zP ?_ | refine zA ?_ | (refine zM ?_; intro _ _) | refine zX ?_ | (refine zC ?_; intro _ _ _ _) | (refine zS ?_; intro _ _) | refine zO ?_ | (apply Ws <;> intro hg))
            exact Ends.ret2 rfl rfl ⟨_, [], n0, by rw [hER], by rw [hER, if_neg (by decide)]; exact .nil 0, Nat.le_refl _, hH⟩
          · repeat' (first | refine zP ?_ | refine zA ?_ | (refine zM ?_; intro _ _) | refine zX ?_ | (refine zC ?_; intro _ _ _ _) | (refine zS ?_; intro _ _) | refine zO ?_ | (apply Ws <;> intro hg))
            refine Ends.loop (k + 1) (by omega) (by repeat' (first | exact .nil | refine .cons rfl ?_)) rfl ⟨rfl, hk', firstE_succ hz ?_⟩
            unfold errC; rw [if_neg (by omega)]
      · have hkn : k = ps.length := by omega
        subst hkn
        rw [hz] at hER
        have hp := (errR_zero.1 hER).2
        repeat' (first | refine zP ?_ | refine zA ?_ | (refine zM ?_; intro _ _) | refine zX ?_ | (refine zC ?_; intro _ _ _ _) | (refine zS ?_; intro _ _) | (apply Ws <;> intro hg))
        refine WR.call (by first | exact gN | exact gS rfl) rfl rfl (byPrice_fs hH hS hx hU) ?_
        rintro _ H2 ⟨hv2, b, M2, n2, rfl, hV, hmb, hn2, hH2⟩
        have hU2 := hU.mono fun q hq => List.mem_append_right M2 hq
        refine WR.call (by first | exact gN | exact gS rfl) rfl rfl (best_fs (B := M2 ++ M) hx.one hx.most hH2 (fun p hp => hp) (good_grd hx (hV.mono fun q hq => List.mem_append_left _ hq)) (cost_price (List.mem_append_left _ hmb) hU2 (by omega)) (fun x hxl => by have := hp.bd x (by omega); omega) (allA_few hx.most)) ?_
        rintro e3 H3 ⟨ws, M3, n3, hSe, hR, hn3, hH3⟩
        have hne := List.length_pos_iff.2 (prcB_ne xs ps)
        have hwl := hR.1
        have hR0 := hR.2 0 hne
        have hws : 0 < ws.length := by rw [hwl]; exact hne
        repeat' (first | refine zP ?_ | refine zA ?_ | (refine zM ?_; intro _ _) | refine zX ?_ | (refine zC ?_; intro _ _ _ _) | (refine zS ?_; intro _ _) | (apply Ws <;> intro hg))
        refine Ends.ret2 rfl rfl ⟨_, M3 ++ M2, n3, by rw [hER], ?_, by omega, by rw [List.append_assoc]; exact hH3⟩
        rw [if_pos hER, List.append_assoc]; exact hR0
end
end Go.Proofs.Ytcfffhkabhmkmaa.Ps

/- Shores by numbers. -/
namespace Go.Proofs.Ytcfffhkabhmkmaa.Ps
open Go Go.Abs Go.Mth
set_option linter.unusedVariables false
set_option linter.unusedSimpArgs false
theorem u8k : C.c.P.underlying 5 = some (.int .u8) := by kernel_rfl
theorem i64k : C.c.P.underlying 3 = some (.int .i64) := by kernel_rfl
def mkS (by_ : List Nat) (n : Nat) : List Int := (List.range n).map fun i => if i = 0 then -1 else ((by_.getD i 0 % i : Nat) : Int)
theorem mkS_len (by_ : List Nat) (n : Nat) : (mkS by_ n).length = n := by simp [mkS]
theorem mkS_get {by_ : List Nat} {n i : Nat} (h : i < n) : (mkS by_ n).getD i 0 = if i = 0 then -1 else ((by_.getD i 0 % i : Nat) : Int) := by
  rw [getD_eq (by rw [mkS_len]; exact h)]; simp [mkS]
theorem mkS_succ (by_ : List Nat) (n : Nat) : mkS by_ (n + 1) = mkS by_ n ++ [if n = 0 then -1 else ((by_.getD n 0 % n : Nat) : Int)] := by simp [mkS, List.range_succ]
theorem mkS_ok (by_ : List Nat) {n : Nat} (h1 : 1 ≤ n) (h10 : n ≤ 10) : OKS (mkS by_ n) where
  one := by rw [mkS_len]; exact h1
  most := by rw [mkS_len]; exact h10
  root := by rw [mkS_get (by omega), if_pos rfl]
  par k hk hl := by
    rw [mkS_len] at hl
    rw [mkS_get hl, if_neg (by omega)]
    have := Nat.mod_lt (by_.getD k 0) (show 0 < k by omega)
    omega
theorem hm_grow {xs : List Int} (h : OKS xs) {k p : Nat} (hk1 : 1 ≤ k) (hk : k < xs.length) (hp : xs.getD k 0 = (p : Int)) (hpk : p < k) {l : List Nat} (hl : l.length = k) (hv : ∀ i, i < k → l.getD i 0 = hmTo xs k i) :
    ∀ i, i < k + 1 → ((l ++ [2 ^ k ||| 2 ^ p]).set p ((l ++ [2 ^ k ||| 2 ^ p]).getD p 0 ||| 2 ^ k)).getD i 0 = hmTo xs (k + 1) i := by
  obtain ⟨L, hL⟩ : ∃ L, l ++ List.replicate (xs.length - k) 0 = L := ⟨_, rfl⟩
  have hLl : L.length = xs.length := by rw [← hL]; simp [hl]; omega
  have hLv : ∀ i, i < xs.length → L.getD i 0 = hmTo xs k i := fun i hi => by
    by_cases e : i < k
    · rw [← hL, getD_app_l (by omega)]; exact hv i e
    · rw [hm_zero (by omega), ← hL, List.getD_eq_getElem?_getD, List.getElem?_append_right (by omega), List.getElem?_replicate]
      split <;> rfl
  have hs := hm_step h hk hp hpk hLl hLv
  have hLk : L.getD k 0 = 0 := by rw [hLv k hk, hm_zero (Nat.le_refl _)]
  intro i hi
  rw [← hs i (by omega)]
  have n1 : (L.set k (L.getD k 0 ||| 2 ^ k)).length = xs.length := by simp [hLl]
  have n2 : ((L.set k (L.getD k 0 ||| 2 ^ k)).set k ((L.set k (L.getD k 0 ||| 2 ^ k)).getD k 0 ||| 2 ^ p)).length = xs.length := by simp [hLl]
  have hsn : (l ++ [2 ^ k ||| 2 ^ p]).length = k + 1 := by simp [hl]
  rw [getD_set' (by omega), getD_set' (by omega)]
  have hlp : (l ++ [2 ^ k ||| 2 ^ p]).getD p 0 = L.getD p 0 := by rw [getD_app_l (by omega), hv p hpk, hLv p (by omega)]
  rw [getD_set' (by omega), if_neg (show ¬ p = k by omega), getD_set' (by omega), if_neg (show ¬ p = k by omega), hlp]
  by_cases e1 : i = p
  · rw [if_pos e1, if_pos e1]
  · rw [if_neg e1, if_neg e1, getD_set' (by omega)]
    by_cases e2 : i = k
    · rw [if_pos e2, getD_set' (by omega), if_pos rfl, hLk, Nat.zero_or, e2, ← hl, snoc_at]
    · rw [if_neg e2, getD_set' (by omega), if_neg e2, getD_app_l (by omega), hv i (by omega), hLv i (by omega)]
structure KH where
  k : Nat
  vs : Value
  vh : Value
  hs : List Nat
  MS : HL
  MH : HL
  n : Nat
theorem lt64 {a : Nat} (h : a < 1024) : a < capK .u64 := Nat.lt_of_lt_of_le h (by decide)
attribute [local irreducible] gOK WS WC WR WD Ends FS YS OpV seqK blockK loopK midK retK rdK asgK rangeEnd sat Cell
section
variable {M : HL} {n0 : Nat} {H : Heap} {v w : Value}
set_option maxHeartbeats 2000000 in
theorem made_fs (hH : hasH M n0 H) {x : Nat} {by_ : List Nat} (hx : x ≤ 255) (hb : ∀ y ∈ by_, y ≤ 255) (hbl : by_.length = 10) {most : Nat} (h1 : 1 ≤ most) (h10 : most ≤ 10) :
    FS C 32 [.agg (numsK .u8 (x :: by_)).toArray, .int .i64 (most : Int)] H (fun e H' => ∃ vs vh MS MH n', e = .tuple #[vs, vh] ∧ Own 3 1 vs (ints (mkS by_ (1 + x % most))) MS ∧ Own 70 1 vh (numsK .u64 (hsL (mkS by_ (1 + x % most)))) MH ∧ n0 ≤ n' ∧ hasH (MS ++ (MH ++ M)) n' H') := by
  have hone : (numsK .u8 (x :: by_)).all one = true := numsK_one _
  have hsl : (numsK .u8 (x :: by_)).length = 11 := by simp [numsK, hbl]
  have hg0 : (numsK .u8 (x :: by_))[0]? = some (.int .u8 (x : Int)) := rfl
  refine FS.intro (pf := pf32) rfl rfl rfl ?_
  refine WC.seq ?_
  refine WC.region ?_
  refine WR.boxA (cs := numsK .u8 (x :: by_)) (by first | exact gN | exact gS rfl) rfl hH rfl hone fun H1 hH1 => ?_
  repeat' (first | refine zP ?_ | refine zA ?_ | (refine zM ?_; intro _ _) | refine zX ?_ | (refine zC ?_; intro _ _ _ _) | (refine zS ?_; intro _ _) | (apply Ws <;> intro hg))
  refine WR.op (by first | exact gN | exact gS rfl) rfl (OpV.conv u8k i64k rfl (c := (x : Int)) (IntWalk.i64_in _ (by omega))) ?_
  have hmod := Nat.mod_lt x (show 0 < most by omega)
  repeat' (first | refine zP ?_ | refine zA ?_ | (refine zM ?_; intro _ _) | refine zX ?_ | (refine zC ?_; intro _ _ _ _) | (refine zS ?_; intro _ _) | (apply Ws <;> intro hg))
  rw [show (x : Int) % (most : Int) = ((x % most : Nat) : Int) by simp]
  obtain ⟨r, hr⟩ : ∃ r, x % most = r := ⟨_, rfl⟩
  rw [hr] at hmod ⊢
  repeat' (first | refine zP ?_ | refine zA ?_ | (refine zM ?_; intro _ _) | refine zX ?_ | (refine zC ?_; intro _ _ _ _) | (refine zS ?_; intro _ _) | (apply Ws <;> intro hg))
  rw [show (1 : Int) + (r : Int) = ((1 + r : Nat) : Int) by omega]
  obtain ⟨n, hn⟩ : ∃ n, 1 + r = n := ⟨_, rfl⟩
  rw [hn]
  have hn10 : 1 ≤ n ∧ n ≤ 10 := by omega
  have hok := mkS_ok by_ hn10.1 hn10.2
  have hlen := mkS_len by_ n
  clear hr hn hmod hH
  refine WR.bldS (by first | exact gN | exact gS rfl) rfl hH1 (vs := [(0, .int .i64 (-1))]) rfl (cs := [.int .i64 (-1)]) (by rfl) rfl fun H2 hH2 => ?_
  refine WR.bldS (by first | exact gN | exact gS rfl) rfl hH2 (vs := [(0, .int .u64 1)]) rfl (cs := [.int .u64 1]) (by rfl) rfl fun H3 hH3 => ?_
  have hH4 : hasH ([(n0 + 1, .inp 3 0 0 [.int .i64 (-1)])] ++ ([(n0 + 1 + 1, .inp 70 0 0 [.int .u64 1])] ++ ((n0, .row 38 0 0 (numsK .u8 (x :: by_))) :: M))) (n0 + 1 + 1 + 1) H3 := (hH3.asInp .here |>.asInp (.there .here)).swap
  have hOs : Own 3 1 (.slice (some ⟨n0 + 1, 0, some 0⟩) 1 (2 * 1 + 1)) (ints (mkS by_ 1)) [(n0 + 1, .inp 3 0 0 [.int .i64 (-1)])] := .full (len := 1) rfl rfl
  have hOh : Own 70 1 (.slice (some ⟨n0 + 1 + 1, 0, some 0⟩) 1 (2 * 1 + 1)) (numsK .u64 [1]) [(n0 + 1 + 1, .inp 70 0 0 [.int .u64 1])] := .full (len := 1) rfl rfl
  clear hH1 hH2 hH3
  repeat' (first | refine zP ?_ | refine zA ?_ | (refine zM ?_; intro _ _) | refine zX ?_ | (refine zC ?_; intro _ _ _ _) | (refine zS ?_; intro _ _) | (apply Ws <;> intro hg))
  refine WC.loopX [(2, _), (6, _)] (fun z : KH => [(9, .int .i64 (z.k : Int)), (7, z.vs), (8, z.vh)]) []
    (fun z H' => 1 ≤ z.k ∧ z.k ≤ n ∧ z.hs.length = z.k ∧ (∀ i, i < z.k → z.hs.getD i 0 = hmTo (mkS by_ n) z.k i) ∧ Own 3 1 z.vs (ints (mkS by_ z.k)) z.MS ∧ Own 70 1 z.vh (numsK .u64 z.hs) z.MH ∧ n0 ≤ z.n ∧ hasH (z.MS ++ (z.MH ++ ((n0, .row 38 0 0 (numsK .u8 (x :: by_))) :: M))) z.n H') (fun z => n - z.k)
    ⟨1, _, _, [1], _, _, n0 + 1 + 1 + 1⟩ (by repeat' (first | exact .nil | refine .cons rfl ?_)) rfl ⟨Nat.le_refl _, hn10.1, rfl, fun i hi => ?_, hOs, hOh, by simp only; omega, hH4⟩ ?_
  · have : i = 0 := by simp only at hi; omega
    subst this
    refine bits_ext fun j => ?_
    rw [hmTo_bit, show ([1] : List Nat).getD 0 0 = 2 ^ 0 from rfl, pow_bit]
    constructor
    · rintro rfl; exact ⟨by simp only; omega, by simp only; omega, adj_self _ _⟩
    · rintro ⟨_, h, _⟩; simp only at h; omega
  clear hH4 hOs hOh
  rintro ⟨k, vs, vh, hs, MS, MH, n1⟩ H2 ⟨hk1, hk, hhl, hhv, hOs, hOh, hn1, hH⟩
  simp only at hk1 hk hhl hhv hOs hOh hn1 hH
  have hm0 : (n0, Ch.row 38 0 0 (numsK .u8 (x :: by_))) ∈ MS ++ (MH ++ ((n0, .row 38 0 0 (numsK .u8 (x :: by_))) :: M)) := by simp
  dsimp only [List.cons_append, List.nil_append]
  repeat' (first | refine zP ?_ | refine zA ?_ | (refine zM ?_; intro _ _) | refine zX ?_ | (refine zC ?_; intro _ _ _ _) | (refine zS ?_; intro _ _) | (apply Ws <;> intro hg))
  refine WC.condP rfl (fun hlt => ?_) (fun hlt => ?_)
  · have hk' : k < n := by omega
    have hby : by_.getD k 0 ≤ 255 := hb _ (getD_mem (by omega))
    have hgk : (numsK .u8 (x :: by_))[1 + k]? = some (.int .u8 ((by_.getD k 0 : Nat) : Int)) := by
      unfold numsK
      rw [Nat.add_comm 1 k, List.map_cons, List.getElem?_cons_succ, List.getElem?_map, List.getElem?_eq_getElem (by omega), getD_eq (by omega)]; rfl
    repeat' (first | refine zP ?_ | refine zA ?_ | (refine zM ?_; intro _ _) | refine zX ?_ | (refine zC ?_; intro _ _ _ _) | (refine zS ?_; intro _ _) | (apply Ws <;> intro hg))
    refine WR.op (by first | exact gN | exact gS rfl) rfl (OpV.load1 (v := .int .u8 ((by_.getD k 0 : Nat) : Int)) rfl hH hm0 (.row _ _ _ _) (Nat.zero_le _) (by rw [Nat.sub_zero]; exact hgk)) ?_
    refine WR.op (by first | exact gN | exact gS rfl) rfl (OpV.conv u8k i64k rfl (c := ((by_.getD k 0 : Nat) : Int)) (IntWalk.i64_in _ (by omega))) ?_
    repeat' (first | refine zP ?_ | refine zA ?_ | (refine zM ?_; intro _ _) | refine zX ?_ | (refine zC ?_; intro _ _ _ _) | (refine zS ?_; intro _ _) | (apply Ws <;> intro hg))
    rw [show ((by_.getD k 0 : Nat) : Int) % (k : Int) = ((by_.getD k 0 % k : Nat) : Int) by simp]
    have hpm := Nat.mod_lt (by_.getD k 0) (show 0 < k by omega)
    have hss := mkS_succ by_ k
    rw [if_neg (by omega)] at hss
    have hgp := mkS_get (by_ := by_) hk'
    rw [if_neg (by omega)] at hgp
    have hgw := hm_grow hok hk1 (by rw [hlen]; exact hk') hgp hpm hhl hhv
    generalize by_.getD k 0 % k = p at hpm hss hgp hgw ⊢
    have hp1 : 2 ^ k < 1024 := by show 2 ^ k < 2 ^ 10; exact Nat.pow_lt_pow_right (by omega) (by omega)
    have hp2 : 2 ^ p < 1024 := by show 2 ^ p < 2 ^ 10; exact Nat.pow_lt_pow_right (by omega) (by omega)
    have hp3 : 2 ^ k ||| 2 ^ p < 1024 := Nat.or_lt_two_pow (n := 10) hp1 hp2
    repeat' (first | refine zP ?_ | refine zA ?_ | (refine zM ?_; intro _ _) | refine zX ?_ | (refine zC ?_; intro _ _ _ _) | (refine zS ?_; intro _ _) | (apply Ws <;> intro hg))
    refine WR.op (by first | exact gN | exact gS rfl) rfl (OpV.shl1 rfl rfl (by show k ≤ 64; omega) (lt64 hp1)) ?_
    repeat' (first | refine zP ?_ | refine zA ?_ | (refine zM ?_; intro _ _) | refine zX ?_ | (refine zC ?_; intro _ _ _ _) | (refine zS ?_; intro _ _) | (apply Ws <;> intro hg))
    refine WR.op (by first | exact gN | exact gS rfl) rfl (OpV.shl1 rfl rfl (by show p ≤ 64; omega) (lt64 hp2)) ?_
    refine WR.op (by first | exact gN | exact gS rfl) rfl (OpV.orN rfl rfl (lt64 hp1) (lt64 hp2)) ?_
    refine WR.append1RF [] MS (MH ++ ((n0, .row 38 0 0 (numsK .u8 (x :: by_))) :: M)) rfl rfl rfl rfl hOs hH (new := [.int .i64 (p : Int)]) rfl rfl rfl (Nat.le_refl _) (by decide) (by simp [mkS_len]; omega) fun vs2 MS2 n2 H3 hO2 hH3 hn2 => ?_
    refine WR.append1RF MS2 MH ((n0, .row 38 0 0 (numsK .u8 (x :: by_))) :: M) rfl rfl rfl rfl hOh hH3 (new := [.int .u64 ((2 ^ k ||| 2 ^ p : Nat) : Int)]) rfl rfl rfl (Nat.le_refl _) (by decide) (by simp; omega) fun vh2 MH2 n3 H4 hO3 hH4 hn3 => ?_
    clear hH hH3 hOs hOh
    have hO2' : Own 3 1 vs2 (ints (mkS by_ (k + 1))) MS2 := by rw [hss, ints, List.map_append]; exact hO2.own
    have hnn : numsK .u64 hs ++ [Value.int .u64 ((2 ^ k ||| 2 ^ p : Nat) : Int)] = numsK .u64 (hs ++ [2 ^ k ||| 2 ^ p]) := by simp [numsK]
    rw [hnn] at hO3
    have hls : (hs ++ [2 ^ k ||| 2 ^ p]).length = k + 1 := by simp [hhl]
    have hbp : (hs ++ [2 ^ k ||| 2 ^ p]).getD p 0 < 1024 := by rw [getD_app_l (by omega), hhv p (by omega)]; exact hmTo_lt p (by omega)
    generalize hs ++ [2 ^ k ||| 2 ^ p] = l2 at hO3 hls hbp hgw
    have hll : (numsK .u64 l2).length = (k + 1) * 1 := by simp [numsK, hls]
    generalize hq : numsK .u64 l2 = q2 at hO3 hll
    cases hO3 with
    | @mk b u o len _ hl3 =>
      have hlk : len = k + 1 := by omega
      subst hlk
      subst hq
      replace hH4 : hasH ((b, Ch.row 70 u o (numsK .u64 l2)) :: (MS2 ++ ((n0, .row 38 0 0 (numsK .u8 (x :: by_))) :: M))) n3 H4 := hH4.perm (List.perm_middle (l₁ := MS2) (a := (b, Ch.row 70 u o (numsK .u64 l2))))
      have hSh : Sl ((b, Ch.row 70 u o (numsK .u64 l2)) :: (MS2 ++ ((n0, .row 38 0 0 (numsK .u8 (x :: by_))) :: M))) 1 (.slice (some ⟨b, o, some u⟩) (k + 1) (2 * 1)) (numsK .u64 l2) := Own.sl (.row hl3) (MS2 ++ ((n0, .row 38 0 0 (numsK .u8 (x :: by_))) :: M))
      repeat' (first | refine zP ?_ | refine zA ?_ | (refine zM ?_; intro _ _) | refine zX ?_ | (refine zC ?_; intro _ _ _ _) | (refine zS ?_; intro _ _) | (apply Ws <;> intro hg))
      refine WR.op (by first | exact gN | exact gS rfl) rfl (OpV.load1 (v := .int .u64 ((l2.getD p 0 : Nat) : Int)) rfl hH4 (.head _) (.row _ _ _ _) (Nat.le_add_right _ _) (by rw [Nat.add_sub_cancel_left]; exact nodes_get (by omega))) ?_
      repeat' (first | refine zP ?_ | refine zA ?_ | (refine zM ?_; intro _ _) | refine zX ?_ | (refine zC ?_; intro _ _ _ _) | (refine zS ?_; intro _ _) | (apply Ws <;> intro hg))
      refine WR.op (by first | exact gN | exact gS rfl) rfl (OpV.shl1 rfl rfl (by show k ≤ 64; omega) (lt64 hp1)) ?_
      refine WR.op (by first | exact gN | exact gS rfl) rfl (OpV.orN rfl rfl (lt64 hbp) (lt64 hp1)) ?_
      repeat' (first | refine zP ?_ | refine zA ?_ | (refine zM ?_; intro _ _) | refine zX ?_ | (refine zC ?_; intro _ _ _ _) | (refine zS ?_; intro _ _) | (apply Ws <;> intro hg))
      refine WR.store1 (cs' := numsK .u64 (l2.set p (l2.getD p 0 ||| 2 ^ k))) (by first | exact gN | exact gS rfl) hH4 rfl rfl rfl .here (Nat.le_add_right _ _) (by rw [Nat.add_sub_cancel_left]; simp [numsK]; omega) (by rw [Nat.add_sub_cancel_left]; simp [numsK]) fun H5 hH5 => ?_
      repeat' (first | refine zP ?_ | refine zA ?_ | (refine zM ?_; intro _ _) | refine zX ?_ | (refine zC ?_; intro _ _ _ _) | (refine zS ?_; intro _ _) | (apply Ws <;> intro hg))
      exact Ends.loop ⟨k + 1, vs2, _, l2.set p (l2.getD p 0 ||| 2 ^ k), MS2, [(b, .row 70 u o (numsK .u64 (l2.set p (l2.getD p 0 ||| 2 ^ k))))], n3⟩ (by simp only; omega) (by repeat' (first | exact .nil | refine .cons rfl ?_)) rfl ⟨by simp only; omega, hk', by simpa using hls, hgw, hO2', .row (by simp [numsK, hls]), by simp only; omega, hH5.perm (List.perm_middle (l₁ := MS2)).symm⟩
  · have hkn : k = n := by omega
    subst hkn
    have hhs : hs = hsL (mkS by_ k) := by
      refine ext_getD (a := 0) (by rw [hsL_len, hlen, hhl]) fun i hi => ?_
      rw [hhv i (by omega), hsL_get (by omega)]
      have := hmTo_all (xs := mkS by_ k) (i := i) (by omega)
      rw [hlen] at this
      exact this
    subst hhs
    repeat' (first | refine zP ?_ | refine zA ?_ | (refine zM ?_; intro _ _) | refine zX ?_ | (refine zC ?_; intro _ _ _ _) | (refine zS ?_; intro _ _) | (apply Ws <;> intro hg))
    exact Ends.ret2 rfl rfl ⟨vs, vh, MS, MH, n1, rfl, hOs, hOh, hn1, (hH.perm (M' := (n0, .row 38 0 0 (numsK .u8 (x :: by_))) :: (MS ++ (MH ++ M))) (by classical exact List.perm_iff_count.2 (fun a => by simp only [defds, List.map_cons, List.map_nil, List.count_append, List.count_cons, List.count_nil, List.cons_append, List.nil_append, List.append_nil]; omega))).tail⟩
end
end Go.Proofs.Ytcfffhkabhmkmaa.Ps

/- The lists that cost the least, one after the other. -/
namespace Go.Proofs.Ytcfffhkabhmkmaa.Ps
open Go Go.Abs Go.Mth
set_option linter.unusedVariables false
set_option linter.unusedSimpArgs false
theorem snocInd {α : Type} {P : List α → Prop} (h0 : P []) (h1 : ∀ l x, P l → P (l ++ [x])) (l : List α) : P l := by
  have : ∀ r : List α, P r.reverse := by
    intro r
    induction r with
    | nil => exact h0
    | cons x r ih => rw [List.reverse_cons]; exact h1 _ _ ih
  have h := this l.reverse
  rwa [List.reverse_reverse] at h
theorem bestF_inv (c : List Nat → Int) (zs : List (List Nat)) : (zs = [] ∧ bestF c zs = ([], 0)) ∨ ((∀ z ∈ zs, (bestF c zs).2 ≤ c z) ∧ (bestF c zs).1 = zs.filter (fun z => decide (c z = (bestF c zs).2)) ∧ (bestF c zs).1 ≠ []) := by
  refine snocInd (P := fun zs => (zs = [] ∧ bestF c zs = ([], 0)) ∨ ((∀ z ∈ zs, (bestF c zs).2 ≤ c z) ∧ (bestF c zs).1 = zs.filter (fun z => decide (c z = (bestF c zs).2)) ∧ (bestF c zs).1 ≠ [])) (.inl ⟨rfl, rfl⟩) (fun l x ih => ?_) zs
  right
  rw [bestF_snoc]
  rcases ih with ⟨rfl, h⟩ | ⟨h1, h2, h3⟩
  · rw [h]
    simp [bestS]
  · obtain ⟨B, m, hb⟩ : ∃ B m, bestF c l = (B, m) := ⟨_, _, rfl⟩
    rw [hb] at h1 h2 h3 ⊢
    simp only at h1 h2 h3
    unfold bestS
    simp only
    by_cases hc : c x < m
    · rw [if_pos (.inr hc)]
      refine ⟨fun z hz => ?_, ?_, by simp⟩
      · rcases List.mem_append.1 hz with hz | hz
        · have := h1 z hz; simp only; omega
        · rw [List.mem_singleton.1 hz]; exact Int.le_refl _
      · simp only
        rw [List.filter_append, List.filter_eq_nil_iff.2 fun z hz => by have := h1 z hz; simp; omega]
        simp
    · rw [if_neg (by rintro (h | h); exact h3 h; exact hc h)]
      by_cases he : c x = m
      · rw [if_pos he]
        refine ⟨fun z hz => ?_, ?_, by simp⟩
        · rcases List.mem_append.1 hz with hz | hz
          · exact h1 z hz
          · rw [List.mem_singleton.1 hz]; simp only; omega
        · simp only
          rw [List.filter_append, List.filter_cons_of_pos (by simpa using he), ← h2]; rfl
      · rw [if_neg he]
        refine ⟨fun z hz => ?_, ?_, h3⟩
        · rcases List.mem_append.1 hz with hz | hz
          · exact h1 z hz
          · rw [List.mem_singleton.1 hz]; simp only; omega
        · simp only
          rw [List.filter_append, List.filter_cons_of_neg (by simpa using he), ← h2]; simp
theorem sumZ_len (z : List Nat) : sumZ (fun _ => 1) z = (z.length : Int) := by
  induction z with
  | nil => rfl
  | cons x z ih => have : sumZ (fun _ => 1) (x :: z) = 1 + sumZ (fun _ => 1) z := by simp [sumZ]
                   rw [this, ih, List.length_cons]; omega
theorem sumZ_neg (z : List Nat) : sumZ (fun _ => -1) z = -(z.length : Int) := by
  induction z with
  | nil => rfl
  | cons x z ih => have : sumZ (fun _ => -1) (x :: z) = -1 + sumZ (fun _ => -1) z := by simp [sumZ]
                   rw [this, ih, List.length_cons]; omega
def fstB (c : List Nat → Int) (zs : List (List Nat)) : List Nat := (bestF c zs).1.getD 0 []
theorem bestF_all {c : List Nat → Int} {zs : List (List Nat)} {z : List Nat} (h : z ∈ (bestF c zs).1) : z ∈ zs ∧ c z = (bestF c zs).2 := by
  rcases bestF_inv c zs with ⟨rfl, h1⟩ | ⟨_, h2, _⟩
  · rw [h1] at h; cases h
  · rw [h2] at h
    have := List.mem_filter.1 h
    exact ⟨this.1, by simpa using this.2⟩
theorem fstB_mem {c : List Nat → Int} {zs : List (List Nat)} (h : zs ≠ []) : fstB c zs ∈ (bestF c zs).1 := by
  unfold fstB
  exact getD_mem (List.length_pos_iff.2 (bestF_ne h))
theorem fstB_cost {c : List Nat → Int} {zs : List (List Nat)} (h : zs ≠ []) : c (fstB c zs) = (bestF c zs).2 := (bestF_all (fstB_mem h)).2
theorem bestF_le {c : List Nat → Int} {zs : List (List Nat)} {z : List Nat} (h : z ∈ zs) : (bestF c zs).2 ≤ c z := by
  rcases bestF_inv c zs with ⟨rfl, h1⟩ | ⟨h1, _, _⟩
  · cases h
  · exact h1 z h
end Go.Proofs.Ytcfffhkabhmkmaa.Ps

/- As few posts guard as places can be apart; at most half of the places; a place more. -/
namespace Go.Proofs.Ytcfffhkabhmkmaa.Ps
open Go Go.Abs Go.Mth
set_option linter.unusedVariables false
set_option linter.unusedSimpArgs false
def selL (n : Nat) (f : Nat → Bool) : List Nat := (List.range n).filter f
def cnt (n : Nat) (f : Nat → Bool) : Nat := (selL n f).length
theorem selL_asc (n : Nat) (f : Nat → Bool) : AscN n (selL n f) := ⟨List.pairwise_lt_range.sublist List.filter_sublist, fun x hx => List.mem_range.1 (List.mem_filter.1 hx).1⟩
theorem mem_selL {n : Nat} {f : Nat → Bool} {x : Nat} : x ∈ selL n f ↔ x < n ∧ f x = true := by simp [selL]
theorem cnt_succ (n : Nat) (f : Nat → Bool) : cnt (n + 1) f = cnt n f + if f n = true then 1 else 0 := by
  unfold cnt selL
  rw [List.range_succ, List.filter_append, List.length_append]
  by_cases h : f n = true
  · rw [if_pos h, List.filter_cons_of_pos h]; rfl
  · rw [if_neg h, List.filter_cons_of_neg h]; rfl
theorem cnt_le {f g : Nat → Bool} : ∀ {n : Nat}, (∀ x, x < n → f x = true → g x = true) → cnt n f ≤ cnt n g
  | 0, _ => by simp [cnt, selL]
  | n + 1, h => by
    have h1 := cnt_le (n := n) fun x hx => h x (by omega)
    rw [cnt_succ, cnt_succ]
    by_cases hf : f n = true
    · rw [if_pos hf, if_pos (h n (by omega) hf)]; omega
    · rw [if_neg hf]; omega
theorem cnt_or {f : Nat → Bool} {p : Nat} : ∀ {n : Nat}, cnt n (fun x => f x || decide (x = p)) ≤ cnt n f + 1 ∧ (n ≤ p → cnt n (fun x => f x || decide (x = p)) = cnt n f)
  | 0 => by simp [cnt, selL]
  | n + 1 => by
    obtain ⟨h1, h2⟩ := cnt_or (f := f) (p := p) (n := n)
    rw [cnt_succ, cnt_succ]
    by_cases e : n = p
    · have := h2 (by omega)
      rw [this]
      refine ⟨?_, fun h => by omega⟩
      split <;> split <;> omega
    · have e2 : (f n || decide (n = p)) = f n := by simp [e]
      rw [e2]
      refine ⟨by omega, fun h => by rw [h2 (by omega)]⟩
theorem cnt_mem {l : List Nat} {n : Nat} : cnt n (fun x => decide (x ∈ l)) ≤ l.length := by
  induction l with
  | nil =>
    have : selL n (fun x => decide (x ∈ ([] : List Nat))) = [] := List.filter_eq_nil_iff.2 (by simp)
    rw [cnt, this]; exact Nat.le_refl _
  | cons a l ih =>
    have h1 : cnt n (fun x => decide (x ∈ a :: l)) ≤ cnt n (fun x => decide (x ∈ l) || decide (x = a)) := cnt_le fun x _ hx => by
      simp only [decide_eq_true_eq, List.mem_cons] at hx
      simp only [Bool.or_eq_true, decide_eq_true_eq]
      exact hx.symm
    have h2 := (cnt_or (f := fun x => decide (x ∈ l)) (p := a) (n := n)).1
    rw [List.length_cons]; omega
theorem asc_sel {n : Nat} {l : List Nat} (h : AscN n l) : l = selL n (fun x => decide (x ∈ l)) := by
  have hs := selL_asc n fun x => decide (x ∈ l)
  have key : ∀ {a b : List Nat}, a.Pairwise (· < ·) → b.Pairwise (· < ·) → (∀ x, x ∈ a ↔ x ∈ b) → a = b := by
    intro a
    induction a with
    | nil =>
      intro b _ _ hm
      cases b with
      | nil => rfl
      | cons y b => exact absurd ((hm y).2 (by simp)) (by simp)
    | cons x a ih =>
      intro b h1 h2 hm
      cases b with
      | nil => exact absurd ((hm x).1 (by simp)) (by simp)
      | cons y b =>
        obtain ⟨k1, k2⟩ := List.pairwise_cons.1 h1
        obtain ⟨k3, k4⟩ := List.pairwise_cons.1 h2
        have hxy : x = y := by
          rcases List.mem_cons.1 ((hm x).1 (by simp)) with e | e
          · exact e
          · rcases List.mem_cons.1 ((hm y).2 (by simp)) with e2 | e2
            · exact e2.symm
            · have := k3 x e; have := k1 y e2; omega
        subst hxy
        rw [ih k2 k4 fun z => ?_]
        constructor
        · intro hz
          rcases List.mem_cons.1 ((hm z).1 (by simp [hz])) with e | e
          · have := k1 z hz; omega
          · exact e
        · intro hz
          rcases List.mem_cons.1 ((hm z).2 (by simp [hz])) with e | e
          · have := k3 z hz; omega
          · exact e
  refine key h.asc hs.asc fun x => ?_
  rw [mem_selL, decide_eq_true_eq]
  exact ⟨fun hx => ⟨h.lt x hx, hx⟩, fun hx => hx.2⟩
def few (xs : List Int) : List Nat := (fewB xs).getD 0 []
def far (xs : List Int) : List Nat := (aptB xs).getD 0 []
theorem few_mem (xs : List Int) : few xs ∈ grdL xs := (bestF_all (fstB_mem (grdL_ne xs))).1
theorem far_mem (xs : List Int) : far xs ∈ aptL xs := (bestF_all (fstB_mem (aptL_ne xs))).1
theorem few_grd (xs : List Int) : AscN xs.length (few xs) ∧ grd xs (few xs) = true := ⟨grdL_asc _ (few_mem xs), (List.mem_filter.1 (few_mem xs)).2⟩
theorem far_apt (xs : List Int) : AscN xs.length (far xs) ∧ apt xs (far xs) = true := ⟨aptL_asc _ (far_mem xs), (List.mem_filter.1 (far_mem xs)).2⟩
theorem few_le {xs : List Int} {z : List Nat} (h : AscN xs.length z) (hg : grd xs z = true) : (few xs).length ≤ z.length := by
  have h1 := bestF_le (c := sumZ fun _ => 1) (zs := grdL xs) (z := z) (List.mem_filter.2 ⟨mem_allA.2 h, hg⟩)
  have h2 := fstB_cost (c := sumZ fun _ => 1) (grdL_ne xs)
  have e : fstB (sumZ fun _ => 1) (grdL xs) = few xs := rfl
  rw [← h2, e, sumZ_len, sumZ_len] at h1
  omega
theorem far_ge {xs : List Int} {z : List Nat} (h : AscN xs.length z) (hg : apt xs z = true) : z.length ≤ (far xs).length := by
  have h1 := bestF_le (c := sumZ fun _ => -1) (zs := aptL xs) (z := z) (List.mem_filter.2 ⟨mem_allA.2 h, hg⟩)
  have h2 := fstB_cost (c := sumZ fun _ => -1) (aptL_ne xs)
  have e : fstB (sumZ fun _ => -1) (aptL xs) = far xs := rfl
  rw [← h2, e, sumZ_neg, sumZ_neg] at h1
  omega
theorem few_cnt {xs : List Int} {f : Nat → Bool} (h : ∀ i, i < xs.length → ∃ p, p < xs.length ∧ f p = true ∧ adj xs p i = true) : (few xs).length ≤ cnt xs.length f := by
  refine few_le (selL_asc _ f) (grd_iff.2 fun i hi => ?_)
  obtain ⟨p, h1, h2, h3⟩ := h i hi
  exact ⟨p, mem_selL.2 ⟨h1, h2⟩, h3⟩
/-! No places that are apart are more than posts that guard. -/
theorem weak {xs : List Int} : ∀ {l m : List Nat}, l.Pairwise (fun a b => hm xs a &&& hm xs b = 0) → (∀ x ∈ l, ∃ p ∈ m, p < xs.length ∧ adj xs p x = true) → l.length ≤ m.length
  | [], m, _, _ => by simp
  | x :: l, m, h1, h2 => by
    obtain ⟨k1, k2⟩ := List.pairwise_cons.1 h1
    obtain ⟨p, hp, hpn, ha⟩ := h2 x (by simp)
    have h3 : ∀ y ∈ l, ∃ q ∈ m.erase p, q < xs.length ∧ adj xs q y = true := fun y hy => by
      obtain ⟨q, hq, hqn, hb⟩ := h2 y (by simp [hy])
      refine ⟨q, (List.mem_erase_of_ne ?_).2 hq, hqn, hb⟩
      rintro rfl
      refine and_zero.1 (k1 y hy) q ⟨hm_bit.2 ⟨hqn, ?_⟩, hm_bit.2 ⟨hqn, ?_⟩⟩
      · rw [adj_comm]; exact ha
      · rw [adj_comm]; exact hb
    have := weak k2 h3
    rw [List.length_erase_of_mem hp] at this
    have := List.length_pos_of_mem hp
    rw [List.length_cons]; omega
theorem apt_le_grd {xs : List Int} {l m : List Nat} (hl : AscN xs.length l) (hm' : AscN xs.length m) (h1 : apt xs l = true) (h2 : grd xs m = true) : l.length ≤ m.length :=
  weak (of_decide_eq_true h1) fun x hx => by
    obtain ⟨p, hp, ha⟩ := grd_iff.1 h2 x (hl.lt x hx)
    exact ⟨p, hp, hm'.lt p hp, ha⟩
/-! From the places farthest out: where no post is at hand, one behind it. -/
def gr (xs : List Int) : Nat → List Nat × List Nat
  | 0 => ([], [])
  | d + 1 => if (gr xs d).1.any (fun p => adj xs p (xs.length - 1 - d)) = true then gr xs d else ((xs.getD (xs.length - 1 - d) 0).toNat :: (gr xs d).1, (xs.length - 1 - d) :: (gr xs d).2)
theorem gr_inv {xs : List Int} (hx : OKS xs) : ∀ d, d ≤ xs.length → (gr xs d).1.length = (gr xs d).2.length ∧ (∀ i, xs.length - d ≤ i → i < xs.length → ∃ p ∈ (gr xs d).1, adj xs p i = true) ∧ (gr xs d).2.Pairwise (· < ·) ∧ (∀ x ∈ (gr xs d).2, xs.length - d ≤ x ∧ x < xs.length) ∧
    (∀ x ∈ (gr xs d).2, (xs.getD x 0).toNat ∈ (gr xs d).1) ∧ (∀ p ∈ (gr xs d).1, p < xs.length) ∧ (gr xs d).2.Pairwise (fun a b => hm xs a &&& hm xs b = 0)
  | 0, _ => by
    refine ⟨rfl, fun i h1 h2 => by omega, by simp [gr], by simp [gr], by simp [gr], by simp [gr], by simp [gr]⟩
  | d + 1, hd => by
    obtain ⟨h1, h2, h3, h4, h5, h6, h7⟩ := gr_inv hx d (by omega)
    obtain ⟨i, hi⟩ : ∃ i, xs.length - 1 - d = i := ⟨_, rfl⟩
    have hin : i < xs.length := by omega
    have hir : xs.length - (d + 1) = i := by omega
    have hpar : (xs.getD i 0).toNat < xs.length ∧ (1 ≤ i → xs.getD i 0 = ((xs.getD i 0).toNat : Int) ∧ (xs.getD i 0).toNat < i) ∧ adj xs (xs.getD i 0).toNat i = true := by
      by_cases e : i = 0
      · subst e
        rw [hx.root]
        exact ⟨by simpa using hin, fun h => absurd h (by omega), adj_self _ _⟩
      · have := hx.par i (by omega) hin
        exact ⟨by omega, fun _ => ⟨by omega, by omega⟩, adj_iff.2 (.inr (.inr (by omega)))⟩
    rw [gr, hi]
    by_cases hany : (gr xs d).1.any (fun p => adj xs p i) = true
    · rw [if_pos hany]
      refine ⟨h1, fun j hj1 hj2 => ?_, h3, fun x hx' => ⟨by have := h4 x hx'; omega, (h4 x hx').2⟩, h5, h6, h7⟩
      by_cases e : j = i
      · subst e
        obtain ⟨p, hp, ha⟩ := List.any_eq_true.1 hany
        exact ⟨p, hp, ha⟩
      · exact h2 j (by omega) hj2
    · rw [if_neg hany]
      have hno : ∀ p ∈ (gr xs d).1, adj xs p i = false := fun p hp => by
        cases h : adj xs p i with
        | false => rfl
        | true => exact absurd (List.any_eq_true.2 ⟨p, hp, h⟩) hany
      generalize gr xs d = s at h1 h2 h3 h4 h5 h6 h7 hno ⊢
      obtain ⟨D, P⟩ := s
      simp only at h1 h2 h3 h4 h5 h6 h7 hno ⊢
      refine ⟨by simp [h1], fun j hj1 hj2 => ?_, List.pairwise_cons.2 ⟨fun x hx' => by have := h4 x hx'; omega, h3⟩, fun x hx' => ?_, fun x hx' => ?_, fun p hp => ?_, List.pairwise_cons.2 ⟨fun x hx' => ?_, h7⟩⟩
      · by_cases e : j = i
        · subst e; exact ⟨_, by simp, hpar.2.2⟩
        · obtain ⟨p, hp, ha⟩ := h2 j (by omega) hj2
          exact ⟨p, by simp [hp], ha⟩
      · rcases List.mem_cons.1 hx' with rfl | hx'
        · exact ⟨by omega, hin⟩
        · have := h4 x hx'; exact ⟨by omega, this.2⟩
      · rcases List.mem_cons.1 hx' with rfl | hx'
        · simp
        · exact List.mem_cons_of_mem _ (h5 x hx')
      · rcases List.mem_cons.1 hp with rfl | hp
        · exact hpar.1
        · exact h6 p hp
      · have hxi := h4 x hx'
        have hlt : i < x := by omega
        have hxp := hx.par x (by omega) hxi.2
        have hpD := h5 x hx'
        have hpn := hno _ hpD
        rw [and_zero]
        rintro y ⟨hy1, hy2⟩
        obtain ⟨hyn, hy1⟩ := hm_bit.1 hy1
        obtain ⟨_, hy2⟩ := hm_bit.1 hy2
        have hyr : ∀ a : Nat, xs.getD y 0 = (a : Int) → a < y := fun a ha => by
          by_cases e : y = 0
          · subst e; rw [hx.root] at ha; omega
          · have := hx.par y (by omega) hyn; omega
        have hir2 : ∀ a : Nat, xs.getD i 0 = (a : Int) → a < i := fun a ha => by
          by_cases e : i = 0
          · subst e; rw [hx.root] at ha; omega
          · have := hx.par i (by omega) hin; omega
        have hbad : ∀ q : Nat, xs.getD x 0 = (q : Int) → adj xs q i = true → False := fun q hq ha => by
          have : (xs.getD x 0).toNat = q := by omega
          rw [this] at hpn
          rw [ha] at hpn
          cases hpn
        rcases adj_iff.1 hy2 with e | e | e
        · subst e
          rcases adj_iff.1 hy1 with f | f | f
          · omega
          · have := hir2 _ f; omega
          · exact hbad i f (adj_self _ _)
        · exact hbad y e (by rw [adj_comm]; exact hy1)
        · have h8 := hyr x e
          rcases adj_iff.1 hy1 with f | f | f
          · omega
          · have := hir2 _ f; omega
          · omega
theorem strong {xs : List Int} (hx : OKS xs) : (few xs).length = (far xs).length := by
  obtain ⟨h1, h2, h3, h4, h5, h6, h7⟩ := gr_inv hx xs.length (Nat.le_refl _)
  have k1 : (few xs).length ≤ (gr xs xs.length).1.length := by
    refine Nat.le_trans (few_cnt (f := fun x => decide (x ∈ (gr xs xs.length).1)) fun i hi => ?_) cnt_mem
    obtain ⟨p, hp, ha⟩ := h2 i (by omega) hi
    exact ⟨p, h6 p hp, decide_eq_true hp, ha⟩
  have k2 : (gr xs xs.length).2.length ≤ (far xs).length := far_ge ⟨h3, fun x hx' => (h4 x hx').2⟩ (decide_eq_true h7)
  have k3 := apt_le_grd (far_apt xs).1 (few_grd xs).1 (far_apt xs).2 (few_grd xs).2
  omega
end Go.Proofs.Ytcfffhkabhmkmaa.Ps

/- A place more; cheaper prices. -/
namespace Go.Proofs.Ytcfffhkabhmkmaa.Ps
open Go Go.Abs Go.Mth
set_option linter.unusedVariables false
set_option linter.unusedSimpArgs false
theorem getD_snoc_l {xs : List Int} {a : Int} {i : Nat} (h : i < xs.length) : (xs ++ [a]).getD i 0 = xs.getD i 0 := getD_app_l h
theorem oks_snoc {xs : List Int} {p : Nat} (hx : OKS xs) (h9 : xs.length ≤ 9) (hp : p < xs.length) : OKS (xs ++ [(p : Int)]) where
  one := by simp
  most := by simp; omega
  root := by rw [getD_snoc_l (by have := hx.one; omega)]; exact hx.root
  par k hk hl := by
    rw [List.length_append, List.length_singleton] at hl
    by_cases e : k = xs.length
    · subst e; rw [getD_snoc]; omega
    · rw [getD_snoc_l (by omega)]; exact hx.par k hk (by omega)
theorem adj_snoc {xs : List Int} {a : Int} {i j : Nat} (hi : i < xs.length) (hj : j < xs.length) : adj (xs ++ [a]) i j = adj xs i j := by
  unfold adj; rw [getD_snoc_l hi, getD_snoc_l hj]
theorem adj_new {xs : List Int} {p i : Nat} (hx : OKS xs) (hi : i < xs.length) : adj (xs ++ [(p : Int)]) xs.length i = true ↔ i = p := by
  rw [adj_iff, getD_snoc, getD_snoc_l hi]
  constructor
  · rintro (h | h | h)
    · omega
    · omega
    · by_cases e : i = 0
      · subst e; rw [hx.root] at h; omega
      · have := hx.par i (by omega) hi; omega
  · intro h; subst h; exact .inr (.inl rfl)
theorem few_more {xs : List Int} {p : Nat} (hx : OKS xs) (hp : p < xs.length) : (few xs).length ≤ (few (xs ++ [(p : Int)])).length ∧ (few (xs ++ [(p : Int)])).length ≤ (few xs).length + 1 := by
  have hl : (xs ++ [(p : Int)]).length = xs.length + 1 := by simp
  constructor
  · obtain ⟨h1, h2⟩ := few_grd (xs ++ [(p : Int)])
    rw [grd_iff] at h2
    rw [hl] at h1 h2
    have e1 := asc_sel h1
    have hc : (few (xs ++ [(p : Int)])).length = cnt (xs.length + 1) (fun x => decide (x ∈ few (xs ++ [(p : Int)]))) := by
      rw [cnt]; exact congrArg List.length e1
    generalize few (xs ++ [(p : Int)]) = z at h1 h2 e1 hc
    rw [hc, cnt_succ]
    by_cases hm : xs.length ∈ z
    · rw [if_pos (by simpa using hm)]
      refine Nat.le_trans (few_cnt (f := fun x => decide (x ∈ z) || decide (x = p)) fun i hi => ?_) (cnt_or (f := fun x => decide (x ∈ z)) (p := p)).1
      obtain ⟨q, hq, ha⟩ := h2 i (by omega)
      have hqn := h1.lt q hq
      by_cases e : q = xs.length
      · subst e
        have := (adj_new hx hi).1 ha
        subst this
        exact ⟨i, hi, by simp, adj_self _ _⟩
      · exact ⟨q, by omega, by simp [hq], by rwa [adj_snoc (by omega) hi] at ha⟩
    · rw [if_neg (by simpa using hm), Nat.add_zero]
      refine few_cnt fun i hi => ?_
      obtain ⟨q, hq, ha⟩ := h2 i (by omega)
      have hqn := h1.lt q hq
      have e : q ≠ xs.length := fun e => hm (e ▸ hq)
      exact ⟨q, by omega, by simpa using hq, by rwa [adj_snoc (by omega) hi] at ha⟩
  · obtain ⟨h1, h2⟩ := few_grd xs
    rw [grd_iff] at h2
    have hlt : AscN (xs.length + 1) (few xs ++ [xs.length]) := ⟨List.pairwise_append.2 ⟨h1.asc, by simp, fun a ha b hb => by rw [List.mem_singleton.1 hb]; exact h1.lt a ha⟩, fun x hx' => by
      rcases List.mem_append.1 hx' with h | h
      · have := h1.lt x h; omega
      · rw [List.mem_singleton.1 h]; omega⟩
    have := few_le (xs := xs ++ [(p : Int)]) (z := few xs ++ [xs.length]) (by rw [hl]; exact hlt) (grd_iff.2 fun i hi => by
      rw [hl] at hi
      by_cases e : i = xs.length
      · exact ⟨xs.length, by simp, by rw [e]; exact adj_self _ _⟩
      · obtain ⟨q, hq, ha⟩ := h2 i (by omega)
        exact ⟨q, by simp [hq], by rw [adj_snoc (h1.lt q hq) (by omega)]; exact ha⟩)
    rw [List.length_append, List.length_singleton] at this
    exact this
/-! Prices. -/
def chp (xs ps : List Int) : List Nat := (prcB xs ps).getD 0 []
theorem chp_mem (xs ps : List Int) : chp xs ps ∈ grdL xs := (bestF_all (fstB_mem (grdL_ne xs))).1
theorem chp_le {xs ps : List Int} {z : List Nat} (h : z ∈ grdL xs) : sumZ (fun x => ps.getD x 0) (chp xs ps) ≤ sumZ (fun x => ps.getD x 0) z := by
  have h1 := bestF_le (c := sumZ fun x => ps.getD x 0) h
  have h2 := fstB_cost (c := sumZ fun x => ps.getD x 0) (grdL_ne xs)
  have e : fstB (sumZ fun x => ps.getD x 0) (grdL xs) = chp xs ps := rfl
  rw [← h2, e] at h1
  exact h1
theorem sumZ_cons (c : Nat → Int) (x : Nat) (z : List Nat) : sumZ c (x :: z) = c x + sumZ c z := by simp [sumZ]
theorem sumZ_le {c d : Nat → Int} : ∀ {z : List Nat}, (∀ x ∈ z, c x ≤ d x) → sumZ c z ≤ sumZ d z
  | [], _ => Int.le_refl _
  | x :: z, h => by
    have h1 := h x (by simp)
    have h2 := sumZ_le (z := z) fun y hy => h y (by simp [hy])
    rw [sumZ_cons, sumZ_cons]; omega
theorem sumZ_nn {c : Nat → Int} {z : List Nat} (h : ∀ x ∈ z, 0 ≤ c x) : 0 ≤ sumZ c z := by
  have h2 := sumZ_le (c := fun _ => 0) (d := c) h
  have : sumZ (fun _ => 0) z = 0 := by
    clear h h2
    induction z with
    | nil => rfl
    | cons x z ih => rw [sumZ_cons, ih]; rfl
  omega
theorem sumZ_less {c d : Nat → Int} {q : Nat} (h : ∀ x, x ≠ q → c x = d x) (hq : c q = d q - 1) : ∀ {z : List Nat}, z.Nodup → sumZ d z - 1 ≤ sumZ c z ∧ sumZ c z ≤ sumZ d z ∧ (q ∉ z → sumZ c z = sumZ d z)
  | [], _ => ⟨by simp [sumZ], Int.le_refl _, fun _ => rfl⟩
  | x :: z, hn => by
    obtain ⟨h1, h2⟩ := List.nodup_cons.1 hn
    obtain ⟨k1, k2, k3⟩ := sumZ_less h hq h2
    rw [sumZ_cons, sumZ_cons]
    by_cases e : x = q
    · subst e
      have := k3 h1
      exact ⟨by omega, by omega, fun h => absurd (by simp) h⟩
    · have := h x e
      exact ⟨by omega, by omega, fun hm => by rw [this, k3 fun hh => hm (by simp [hh])]⟩
end Go.Proofs.Ytcfffhkabhmkmaa.Ps

/- The law PostMore. -/
namespace Go.Proofs.Ytcfffhkabhmkmaa.Ps
open Go Go.Abs Go.Mth
set_option linter.unusedVariables false
set_option linter.unusedSimpArgs false
theorem ints_one (l : List Int) : (ints l).all one = true := by
  rw [List.all_eq_true]; intro q hq; obtain ⟨z, _, rfl⟩ := List.mem_map.1 hq; rfl
def prL (a m : Nat) (by_ : List Nat) (n : Nat) : List Int := (List.range n).map fun i => ((a + by_.getD i 0 % m : Nat) : Int)
theorem prL_len (a m : Nat) (by_ : List Nat) (n : Nat) : (prL a m by_ n).length = n := by simp [prL]
theorem prL_get {a m : Nat} {by_ : List Nat} {n i : Nat} (h : i < n) : (prL a m by_ n).getD i 0 = ((a + by_.getD i 0 % m : Nat) : Int) := by
  rw [getD_eq (by rw [prL_len]; exact h)]; simp [prL]
theorem prL_succ (a m : Nat) (by_ : List Nat) (n : Nat) : prL a m by_ (n + 1) = prL a m by_ n ++ [((a + by_.getD n 0 % m : Nat) : Int)] := by simp [prL, List.range_succ]
attribute [local irreducible] gOK WS WC WR WD Ends FS YS OpV seqK blockK loopK midK retK rdK asgK rangeEnd sat Cell
section
variable {M : HL} {n0 : Nat} {H : Heap} {v w : Value}
theorem CloneI_fs (hH : hasH M n0 H) {l : List Int} (hS : Sl M 1 v (ints l)) (hne : l ≠ []) (hl : l.length ≤ 1000) :
    FS C 33 [v] H (fun e H' => ∃ Mx n', OwnR 3 1 e (ints l) Mx ∧ n0 ≤ n' ∧ hasH (Mx ++ M) n' H') := by
  have hne' : ints l ≠ [] := fun h => hne (List.map_eq_nil_iff.1 h)
  have hl1 : 0 < l.length := List.length_pos_iff.2 hne
  have hsm : ∃ a len cap, v = .slice (some a) len cap := by
    generalize ints l = cs at hS hne'
    cases hS with
    | nil c => exact absurd rfl hne'
    | emp a => exact ⟨_, _, _, rfl⟩
    | row => exact ⟨_, _, _, rfl⟩
  obtain ⟨a, len, cap, rfl⟩ := hsm
  refine FS.intro (pf := pf33) rfl rfl rfl ?_
  repeat' (first | refine zP ?_ | refine zA ?_ | (refine zM ?_; intro _ _) | refine zX ?_ | (refine zC ?_; intro _ _ _ _) | (refine zS ?_; intro _ _) | (apply Ws <;> intro hg))
  refine WR.bldS (by first | exact gN | exact gS rfl) rfl hH (vs := []) rfl (cs := []) (by rfl) rfl fun H3 hH3 => ?_
  repeat' (first | refine zP ?_ | refine zA ?_ | (refine zM ?_; intro _ _) | refine zX ?_ | (refine zC ?_; intro _ _ _ _) | (refine zS ?_; intro _ _) | (apply Ws <;> intro hg))
  obtain ⟨hk, hsr⟩ := (hS.cons (p := (n0, .row 3 0 0 []))).src hH3 hne'
  refine WR.appendNew (by first | exact gN | exact gS rfl) rfl rfl rfl hH3 (.head _) (.row _ _ _ _) (Nat.zero_le _) (Nat.zero_le _) hk (by have := hsr _ (Nat.le_refl _); rw [List.take_length] at this; exact this) (by simp) (by simp; omega) (ints_one _) (by omega) (by omega) (by simp; omega) fun H' hH' => ?_
  repeat' (first | refine zP ?_ | refine zA ?_ | (refine zM ?_; intro _ _) | refine zX ?_ | (refine zC ?_; intro _ _ _ _) | (refine zS ?_; intro _ _) | (apply Ws <;> intro hg))
  exact Ends.ret1 rfl ⟨[(n0 + 1, .row 3 0 0 (ints l))], n0 + 2, .mk (by simp), by omega, hH'.sub (.cons_cons _ (List.sublist_cons_self _ _))⟩
theorem costC_fs (hH : hasH M n0 H) {ps : List Int} {z : List Nat} (hS : Sl M 1 v (ints ps)) (hU : Sl M 1 w (nodes z)) (hz : ∀ x ∈ z, x < ps.length) (hb : ∀ x, x < ps.length → -20 ≤ ps.getD x 0 ∧ ps.getD x 0 ≤ 20) (hl : z.length ≤ 1000) :
    FS C 34 ([] ++ [v, w] ++ []) H (fun e H' => e = .int .i64 (sumZ (fun x => ps.getD x 0) z) ∧ H' = H) := by
  have hv := hS.one_
  have hw := hU.one_
  refine FS.intro (pf := pf34) rfl rfl rfl ?_
  repeat' (first | refine zP ?_ | refine zA ?_ | (refine zM ?_; intro _ _) | refine zX ?_ | (refine zC ?_; intro _ _ _ _) | (refine zS ?_; intro _ _) | (apply Ws <;> intro hg))
  refine WC.loopX [(0, v), (8, w), (9, _)] (fun k : Nat => [(10, .int .i64 (k : Int)), (5, .int .i64 (sumZ (fun x => ps.getD x 0) (z.take k)))]) [] (fun k H' => k ≤ z.length ∧ H' = H) (fun k => z.length - k) 0 (by repeat' (first | exact .nil | refine .cons rfl ?_)) rfl ⟨Nat.zero_le _, rfl⟩ ?_
  rintro k H' ⟨hk, rfl⟩
  have hbd := sumZ_bd (c := fun x => ps.getD x 0) (z := z.take k) fun x hx => hb x (hz x (List.mem_of_mem_take hx))
  have htl : (z.take k).length ≤ 1000 := by simp; omega
  dsimp only [List.cons_append, List.nil_append]
  repeat' (first | refine zP ?_ | refine zA ?_ | (refine zM ?_; intro _ _) | refine zX ?_ | (refine zC ?_; intro _ _ _ _) | (refine zS ?_; intro _ _) | (apply Ws <;> intro hg))
  refine WC.condP rfl (fun hlt => ?_) (fun hlt => ?_)
  · have hk' : k < z.length := by omega
    have hx := hz _ (getD_mem (a := 0) hk')
    have htk : z.take (k + 1) = z.take k ++ [z.getD k 0] := by rw [List.take_succ_eq_append_getElem hk', ← getD_eq (a := 0)]
    have hcx := hb _ hx
    have hss := sumZ_snoc (fun x => ps.getD x 0) (z.take k) (z.getD k 0)
    rw [← htk] at hss
    generalize sumZ (fun x => ps.getD x 0) (z.take k) = s at hbd hss ⊢
    repeat' (first | refine zP ?_ | refine zA ?_ | (refine zM ?_; intro _ _) | refine zX ?_ | (refine zC ?_; intro _ _ _ _) | (refine zS ?_; intro _ _) | refine zO ?_ | (apply Ws <;> intro hg))
    exact Ends.loop (k + 1) (by omega) (by rw [hss]; exact (by repeat' (first | exact .nil | refine .cons rfl ?_))) rfl ⟨hk', rfl⟩
  · have hkl : k = z.length := by omega
    subst hkl
    rw [List.take_length]
    repeat' (first | refine zP ?_ | refine zA ?_ | (refine zM ?_; intro _ _) | refine zX ?_ | (refine zC ?_; intro _ _ _ _) | (refine zS ?_; intro _ _) | (apply Ws <;> intro hg))
    exact Ends.ret1 rfl ⟨rfl, rfl⟩
set_option maxHeartbeats 4000000 in
theorem PostMore_fs (hH : hasH M n0 H) {x : List Nat} (hxl : x.length = 11) (hx : ∀ y ∈ x, y ≤ 255) {bh : Nat} (hbh : bh ≤ 255) {py : List Nat} (hpl : py.length = 10) (hp : ∀ y ∈ py, y ≤ 255) :
    FS C 6 [.agg (numsK .u8 x).toArray, .int .u8 (bh : Int), .agg (numsK .u8 py).toArray] H (fun e H' => e = .bool true) := by
  obtain ⟨x, by_, rfl⟩ : ∃ a l, x = a :: l := by
    cases x with
    | nil => simp at hxl
    | cons a l => exact ⟨a, l, rfl⟩
  have hbl : by_.length = 10 := by simpa using hxl
  have hx0 := hx x (by simp)
  have hb : ∀ y ∈ by_, y ≤ 255 := fun y hy => hx y (by simp [hy])
  have hsl : (numsK .u8 (x :: by_)).length = 11 := by simp [numsK, hbl]
  have hspl : (numsK .u8 py).length = 10 := by simp [numsK, hpl]
  have hfin : ∀ {H' : Heap}, FS C 8 [] H' (fun e H'' => e = .bool true ∧ H'' = H') := fun {H'} => FS.works ⟨rfl, rfl⟩
  refine FS.intro (pf := pf6) rfl rfl rfl ?_
  refine WC.seq ?_
  refine WC.region ?_
  refine WR.boxA (cs := numsK .u8 (x :: by_)) (by first | exact gN | exact gS rfl) rfl hH rfl (numsK_one _) fun H1 hH1 => ?_
  refine WR.boxA (cs := numsK .u8 py) (by first | exact gN | exact gS rfl) rfl hH1 rfl (numsK_one _) fun H2 hH2 => ?_
  clear hH hH1
  repeat' (first | refine zP ?_ | refine zA ?_ | (refine zM ?_; intro _ _) | refine zX ?_ | (refine zC ?_; intro _ _ _ _) | (refine zS ?_; intro _ _) | (apply Ws <;> intro hg))
  refine WR.call (by first | exact gN | exact gS rfl) rfl rfl (made_fs (most := 9) hH2 hx0 hb hbl (by decide) (by decide)) ?_
  rintro _ H3 ⟨vs, vh, MS, MH, n3, rfl, hOs, hOh, hn3, hH3⟩
  have hmod := Nat.mod_lt x (show 0 < 9 by decide)
  obtain ⟨n, hn⟩ : ∃ n, 1 + x % 9 = n := ⟨_, rfl⟩
  rw [hn] at hOs hOh
  have hok := mkS_ok by_ (n := n) (by omega) (by omega)
  have hlen := mkS_len by_ n
  obtain ⟨X, hX⟩ : ∃ X, MS ++ (MH ++ ((n0 + 1, .row 36 0 0 (numsK .u8 py)) :: (n0, Ch.row 38 0 0 (numsK .u8 (x :: by_))) :: M)) = X := ⟨_, rfl⟩
  have hSs : Sl X 1 vs (ints (mkS by_ n)) := (hOs.sl []).mono fun q hq => by rw [List.append_nil] at hq; rw [← hX]; simp [hq]
  have hmP : (n0 + 1, Ch.row 36 0 0 (numsK .u8 py)) ∈ X := by rw [← hX]; simp
  rw [hX] at hH3
  clear hX hH2 hOs hOh hsl
  generalize mkS by_ n = xs at hok hlen hSs
  have hne : xs ≠ [] := fun h => by rw [h] at hlen; simp at hlen; omega
  have hvs := hSs.one_
  repeat' (first | refine zP ?_ | refine zA ?_ | (refine zM ?_; intro _ _) | refine zX ?_ | (refine zC ?_; intro _ _ _ _) | (refine zS ?_; intro _ _) | (apply Ws <;> intro hg))
  refine WR.op (by first | exact gN | exact gS rfl) rfl (OpV.conv u8k i64k rfl (c := (bh : Int)) (IntWalk.i64_in _ (by omega))) ?_
  repeat' (first | refine zP ?_ | refine zA ?_ | (refine zM ?_; intro _ _) | refine zX ?_ | (refine zC ?_; intro _ _ _ _) | (refine zS ?_; intro _ _) | (apply Ws <;> intro hg))
  rw [show (bh : Int) % ((xs.length : Nat) : Int) = ((bh % xs.length : Nat) : Int) by simp]
  have hqm := Nat.mod_lt bh (show 0 < xs.length by omega)
  generalize bh % xs.length = q at hqm ⊢
  refine WR.call (by first | exact gN | exact gS rfl) rfl rfl (CloneI_fs hH3 hSs hne (by omega)) ?_
  rintro v31 H4 ⟨MC, n4, hOc, hn4, hH4⟩
  refine WR.append1F [] MC X rfl rfl rfl rfl hOc.own hH4 (new := [.int .i64 (q : Int)]) rfl rfl rfl (Nat.le_refl _) (by decide) (by simp; omega) fun v38 M38 n5 H5 hOm hH5 hn5 => ?_
  replace hH5 : hasH (M38 ++ X) n5 H5 := hH5
  have hSm : Sl (M38 ++ X) 1 v38 (ints (xs ++ [(q : Int)])) := by rw [ints, List.map_append]; exact hOm.sl X
  have hSs5 := hSs.mono fun z hz => List.mem_append_right M38 hz
  have hmP5 := List.mem_append_right M38 hmP
  clear hH3 hH4 hOc hOm hSs hmP
  have hokm := oks_snoc hok (by omega) hqm
  have hfm := few_more hok hqm
  have hst := strong hokm
  have hE0 := errS_zero.2 hok
  have hEm := errS_zero.2 hokm
  have hml : (xs ++ [(q : Int)]).length = xs.length + 1 := by simp
  generalize M38 ++ X = X5 at hH5 hSm hSs5 hmP5
  repeat' (first | refine zP ?_ | refine zA ?_ | (refine zM ?_; intro _ _) | refine zX ?_ | (refine zC ?_; intro _ _ _ _) | (refine zS ?_; intro _ _) | (apply Ws <;> intro hg))
  refine WR.call (by first | exact gN | exact gS rfl) rfl rfl (Fewest_fs hH5 hSs5 (by omega)) ?_
  rintro _ H6 ⟨u6, M6, n6, rfl, hF6, hn6, hH6⟩
  rw [hE0] at hF6 ⊢
  rw [if_pos rfl] at hF6
  replace hF6 : Sl (M6 ++ X5) 1 u6 (nodes (few xs)) := hF6
  have hSs6 := hSs5.mono fun z hz => List.mem_append_right M6 hz
  have hSm6 := hSm.mono fun z hz => List.mem_append_right M6 hz
  have hmP6 := List.mem_append_right M6 hmP5
  clear hH5 hSs5 hSm hmP5
  generalize M6 ++ X5 = X6 at hH6 hSs6 hSm6 hmP6 hF6
  repeat' (first | refine zP ?_ | refine zA ?_ | (refine zM ?_; intro _ _) | refine zX ?_ | (refine zC ?_; intro _ _ _ _) | (refine zS ?_; intro _ _) | (apply Ws <;> intro hg))
  refine WR.call (by first | exact gN | exact gS rfl) rfl rfl (Fewest_fs hH6 hSm6 (by omega)) ?_
  rintro _ H7 ⟨u7, M7, n7, rfl, hF7, hn7, hH7⟩
  rw [hEm] at hF7 ⊢
  rw [if_pos rfl] at hF7
  replace hF7 : Sl (M7 ++ X6) 1 u7 (nodes (few (xs ++ [(q : Int)]))) := hF7
  have hSs7 := hSs6.mono fun z hz => List.mem_append_right M7 hz
  have hSm7 := hSm6.mono fun z hz => List.mem_append_right M7 hz
  have hmP7 := List.mem_append_right M7 hmP6
  replace hF6 := hF6.mono fun z hz => List.mem_append_right M7 hz
  clear hH6 hSs6 hSm6 hmP6
  generalize M7 ++ X6 = X7 at hH7 hSs7 hSm7 hmP7 hF6 hF7
  repeat' (first | refine zP ?_ | refine zA ?_ | (refine zM ?_; intro _ _) | refine zX ?_ | (refine zC ?_; intro _ _ _ _) | (refine zS ?_; intro _ _) | (apply Ws <;> intro hg))
  refine WR.call (by first | exact gN | exact gS rfl) rfl rfl (Apart_fs hH7 hSm7 (by omega)) ?_
  rintro _ H8 ⟨u8, M8, n8, rfl, hF8, hn8, hH8⟩
  rw [hEm] at hF8 ⊢
  rw [if_pos rfl] at hF8
  replace hF8 : Sl (M8 ++ X7) 1 u8 (nodes (far (xs ++ [(q : Int)]))) := hF8
  have hSs8 := hSs7.mono fun z hz => List.mem_append_right M8 hz
  have hmP8 := List.mem_append_right M8 hmP7
  replace hF6 := hF6.mono fun z hz => List.mem_append_right M8 hz
  replace hF7 := hF7.mono fun z hz => List.mem_append_right M8 hz
  clear hH7 hSs7 hSm7 hmP7
  generalize M8 ++ X7 = X8 at hH8 hSs8 hmP8 hF6 hF7 hF8
  obtain ⟨ga, gg⟩ := few_grd xs
  have hgal := ga.len
  have hfl := (few_grd (xs ++ [(q : Int)])).1.len
  have hgM : few xs ∈ grdL xs := few_mem xs
  generalize hA : few xs = A at hF6 hfm ga gg hgal hgM
  generalize few (xs ++ [(q : Int)]) = B at hF7 hfm hst hfl
  generalize far (xs ++ [(q : Int)]) = Q at hF8 hst
  have hu6 := hF6.one_
  have hv8 := hSs8.one_
  have hfl10 : B.length ≤ 10 := by omega
  obtain ⟨hfm1, hfm2⟩ := hfm
  repeat' (first | refine zP ?_ | refine zA ?_ | (refine zM ?_; intro _ _) | refine zX ?_ | (refine zC ?_; intro _ _ _ _) | (refine zS ?_; intro _ _) | refine zO ?_ | (apply Ws <;> intro hg))
  refine WC.loopX [(7, vs), (1, _), (5, _), (10, u6), (86, vs), (87, _)] (fun s : KO => [(88, .int .i64 (s.k : Int)), (16, s.v)]) [] (fun s H' => s.k ≤ xs.length ∧ Own 3 1 s.v (ints (prL 2 19 py s.k)) s.Mx ∧ n8 ≤ s.n ∧ hasH (s.Mx ++ X8) s.n H') (fun s => xs.length - s.k) ⟨0, .slice none 0 0, [], n8⟩ (by repeat' (first | exact .nil | refine .cons rfl ?_)) rfl ⟨Nat.zero_le _, .nil, Nat.le_refl _, hH8⟩ ?_
  clear hH8
  rintro ⟨k, v16, Mx, n9⟩ H9 ⟨hk, hO, hn9, hH⟩
  simp only at hk hO hn9 hH
  have hmP9 := List.mem_append_right Mx hmP8
  have hps := prL_succ 2 19 py k
  dsimp only [List.cons_append, List.nil_append]
  repeat' (first | refine zP ?_ | refine zA ?_ | (refine zM ?_; intro _ _) | refine zX ?_ | (refine zC ?_; intro _ _ _ _) | (refine zS ?_; intro _ _) | (apply Ws <;> intro hg))
  refine WC.condP rfl (fun hlt => ?_) (fun hlt => ?_)
  · have hk' : k < xs.length := by omega
    have hgk : (numsK .u8 py)[k]? = some (.int .u8 ((py.getD k 0 : Nat) : Int)) := by
      unfold numsK
      rw [List.getElem?_map, List.getElem?_eq_getElem (by omega), getD_eq (by omega)]; rfl
    have hpy : py.getD k 0 ≤ 255 := hp _ (getD_mem (by omega))
    repeat' (first | refine zP ?_ | refine zA ?_ | (refine zM ?_; intro _ _) | refine zX ?_ | (refine zC ?_; intro _ _ _ _) | (refine zS ?_; intro _ _) | (apply Ws <;> intro hg))
    refine WR.op (by first | exact gN | exact gS rfl) rfl (OpV.conv u8k i64k rfl (c := ((py.getD k 0 : Nat) : Int)) (IntWalk.i64_in _ (by omega))) ?_
    repeat' (first | refine zP ?_ | refine zA ?_ | (refine zM ?_; intro _ _) | refine zX ?_ | (refine zC ?_; intro _ _ _ _) | (refine zS ?_; intro _ _) | (apply Ws <;> intro hg))
    rw [show (2 : Int) + ((py.getD k 0 : Nat) : Int) % 19 = ((2 + py.getD k 0 % 19 : Nat) : Int) by simp]
    refine WR.append1F [] Mx X8 rfl rfl rfl rfl hO hH (new := [.int .i64 ((2 + py.getD k 0 % 19 : Nat) : Int)]) rfl rfl rfl (Nat.le_refl _) (by decide) (by rw [List.length_map, prL_len]; simp; omega) fun v' Mx' n' H' q1 q2 q3 => ?_
    repeat' (first | refine zP ?_ | refine zA ?_ | (refine zM ?_; intro _ _) | refine zX ?_ | (refine zC ?_; intro _ _ _ _) | (refine zS ?_; intro _ _) | (apply Ws <;> intro hg))
    refine Ends.loop ⟨k + 1, v', Mx', n'⟩ (by simp only; omega) (by repeat' (first | exact .nil | refine .cons rfl ?_)) rfl ⟨hk', ?_, by simp only; omega, q2⟩
    simp only
    rw [hps, ints, List.map_append]; exact q1
  · have hkn : k = xs.length := by omega
    subst hkn
    clear hps
    have hPl := prL_len 2 19 py xs.length
    have hPb : ∀ i, i < (prL 2 19 py xs.length).length → 2 ≤ (prL 2 19 py xs.length).getD i 0 ∧ (prL 2 19 py xs.length).getD i 0 ≤ 20 := fun i hi => by
      rw [hPl] at hi
      rw [prL_get hi]
      have := Nat.mod_lt (py.getD i 0) (show 0 < 19 by decide)
      omega
    generalize prL 2 19 py xs.length = ps at hO hPl hPb
    have hpne : ps ≠ [] := fun h => by rw [h] at hPl; simp at hPl; omega
    have hSp : Sl (Mx ++ X8) 1 v16 (ints ps) := hO.sl X8
    have hSs9 := hSs8.mono fun z hz => List.mem_append_right Mx hz
    replace hF6 := hF6.mono fun z hz => List.mem_append_right Mx hz
    clear hmP9 hmP8 hO hF7 hF8 hSs8
    generalize Mx ++ X8 = X9 at hH hSp hSs9 hF6
    repeat' (first | refine zP ?_ | refine zA ?_ | (refine zM ?_; intro _ _) | refine zX ?_ | (refine zC ?_; intro _ _ _ _) | (refine zS ?_; intro _ _) | (apply Ws <;> intro hg))
    refine WR.call (by first | exact gN | exact gS rfl) rfl rfl (CloneI_fs hH hSp hpne (by omega)) ?_
    rintro v18 H10 ⟨ML, n10, hOl, hn10, hH10⟩
    have hll : (ints ps).length = xs.length * 1 := by simp [hPl]
    generalize hq2 : ints ps = q2 at hOl hll
    cases hOl with
    | @mk b u o len _ hl3 =>
      have hlk : len = xs.length := by omega
      subst hlk
      subst hq2
      replace hH10 : hasH ((b, Ch.row 3 u o (ints ps)) :: X9) n10 H10 := hH10
      have hSl : Sl ((b, Ch.row 3 u o (ints ps)) :: X9) 1 (.slice (some ⟨b, o, some u⟩) xs.length (2 * 1)) (ints ps) := Own.sl (.row hl3) X9
      clear hH
      repeat' (first | refine zP ?_ | refine zA ?_ | (refine zM ?_; intro _ _) | refine zX ?_ | (refine zC ?_; intro _ _ _ _) | (refine zS ?_; intro _ _) | (apply Ws <;> intro hg))
      refine WR.op (by first | exact gN | exact gS rfl) rfl (OpV.conv u8k i64k rfl (c := (bh : Int)) (IntWalk.i64_in _ (by omega))) ?_
      have hsle : (ints ps).length = xs.length := by simp [hPl]
      repeat' (first | refine zP ?_ | refine zA ?_ | (refine zM ?_; intro _ _) | refine zX ?_ | (refine zC ?_; intro _ _ _ _) | (refine zS ?_; intro _ _) | (apply Ws <;> intro hg))
      rw [show (bh : Int) % ((xs.length : Nat) : Int) = ((bh % xs.length : Nat) : Int) by simp]
      have hqm2 := Nat.mod_lt bh (show 0 < xs.length by omega)
      generalize bh % xs.length = r at hqm2 ⊢
      have hgr := hPb r (by omega)
      repeat' (first | refine zP ?_ | refine zA ?_ | (refine zM ?_; intro _ _) | refine zX ?_ | (refine zC ?_; intro _ _ _ _) | (refine zS ?_; intro _ _) | (apply Ws <;> intro hg))
      refine WR.op (by first | exact gN | exact gS rfl) rfl (OpV.load1 (v := .int .i64 (ps.getD r 0)) rfl hH10 (.head _) (.row _ _ _ _) (Nat.le_add_right _ _) (by rw [Nat.add_sub_cancel_left]; exact ints_get (by omega))) ?_
      repeat' (first | refine zP ?_ | refine zA ?_ | (refine zM ?_; intro _ _) | refine zX ?_ | (refine zC ?_; intro _ _ _ _) | (refine zS ?_; intro _ _) | (apply Ws <;> intro hg))
      refine WR.store1 (cs' := ints (ps.set r (ps.getD r 0 - 1))) (by first | exact gN | exact gS rfl) hH10 rfl rfl rfl .here (Nat.le_add_right _ _) (by rw [Nat.add_sub_cancel_left]; simp; omega) (by rw [Nat.add_sub_cancel_left]; simp) fun H11 hH11 => ?_
      clear hH10 hSl
      have hLl : (ps.set r (ps.getD r 0 - 1)).length = xs.length := by simp [hPl]
      have hLg : ∀ i, (ps.set r (ps.getD r 0 - 1)).getD i 0 = if i = r then ps.getD r 0 - 1 else ps.getD i 0 := fun i => getD_set' (by omega)
      generalize ps.set r (ps.getD r 0 - 1) = ls at hH11 hLl hLg
      have hSl : Sl ((b, Ch.row 3 u o (ints ls)) :: X9) 1 (.slice (some ⟨b, o, some u⟩) xs.length (2 * 1)) (ints ls) := Own.sl (.row (by simp [hLl])) X9
      have hSp' : Sl ((b, Ch.row 3 u o (ints ls)) :: X9) 1 v16 (ints ps) := hSp.cons
      have hSs' : Sl ((b, Ch.row 3 u o (ints ls)) :: X9) 1 vs (ints xs) := hSs9.cons
      have hF6' : Sl ((b, Ch.row 3 u o (ints ls)) :: X9) 1 u6 (nodes A) := hF6.cons
      clear hSp hSs9 hF6
      generalize ((b, Ch.row 3 u o (ints ls)) :: X9) = Y at hH11 hSl hSp' hSs' hF6'
      generalize (Value.slice (some ⟨b, o, some u⟩) xs.length (2 * 1)) = vl at hSl ⊢
      have hvl := hSl.one_
      have hvp := hSp'.one_
      have hOP : errR xs ps = 0 := errR_zero.2 ⟨hok, hPl, fun i hi => by have := hPb i hi; omega⟩
      have hOL : errR xs ls = 0 := errR_zero.2 ⟨hok, hLl, fun i hi => by
        rw [hLg]
        split
        · omega
        · have := hPb i (by omega); omega⟩
      repeat' (first | refine zP ?_ | refine zA ?_ | (refine zM ?_; intro _ _) | refine zX ?_ | (refine zC ?_; intro _ _ _ _) | (refine zS ?_; intro _ _) | (apply Ws <;> intro hg))
      refine WR.call (by first | exact gN | exact gS rfl) rfl rfl (Cheapest_fs hH11 hSs' (by omega) hSp' (by omega)) ?_
      rintro _ H12 ⟨u12, M12, n12, rfl, hC1, hn12, hH12⟩
      rw [hOP] at hC1 ⊢
      rw [if_pos rfl] at hC1
      replace hC1 : Sl (M12 ++ Y) 1 u12 (nodes (chp xs ps)) := hC1
      replace hSl := hSl.mono fun z hz => List.mem_append_right M12 hz
      replace hSp' := hSp'.mono fun z hz => List.mem_append_right M12 hz
      replace hSs' := hSs'.mono fun z hz => List.mem_append_right M12 hz
      replace hF6' := hF6'.mono fun z hz => List.mem_append_right M12 hz
      clear hH11
      generalize M12 ++ Y = Y2 at hH12 hC1 hSl hSp' hSs' hF6'
      repeat' (first | refine zP ?_ | refine zA ?_ | (refine zM ?_; intro _ _) | refine zX ?_ | (refine zC ?_; intro _ _ _ _) | (refine zS ?_; intro _ _) | (apply Ws <;> intro hg))
      refine WR.call (by first | exact gN | exact gS rfl) rfl rfl (Cheapest_fs hH12 hSs' (by omega) hSl (by omega)) ?_
      rintro _ H13 ⟨u13, M13, n13, rfl, hC2, hn13, hH13⟩
      rw [hOL] at hC2 ⊢
      rw [if_pos rfl] at hC2
      replace hC2 : Sl (M13 ++ Y2) 1 u13 (nodes (chp xs ls)) := hC2
      replace hSl := hSl.mono fun z hz => List.mem_append_right M13 hz
      replace hSp' := hSp'.mono fun z hz => List.mem_append_right M13 hz
      replace hF6' := hF6'.mono fun z hz => List.mem_append_right M13 hz
      replace hC1 := hC1.mono fun z hz => List.mem_append_right M13 hz
      clear hH12 hSs'
      generalize M13 ++ Y2 = Y3 at hH13 hC1 hC2 hSl hSp' hF6'
      have k1 := chp_mem xs ps
      have k2 := chp_mem xs ls
      have a1 := grdL_asc _ k1
      have a2 := grdL_asc _ k2
      have hmin1 : sumZ (fun x => ps.getD x 0) (chp xs ps) ≤ sumZ (fun x => ps.getD x 0) (chp xs ls) := chp_le k2
      have hmin2 : sumZ (fun x => ls.getD x 0) (chp xs ls) ≤ sumZ (fun x => ls.getD x 0) (chp xs ps) := chp_le k1
      have hmin3 : sumZ (fun x => ps.getD x 0) (chp xs ps) ≤ sumZ (fun x => ps.getD x 0) A := chp_le hgM
      generalize chp xs ps = c1 at hC1 k1 a1 hmin1 hmin2 hmin3
      generalize chp xs ls = c2 at hC2 k2 a2 hmin1 hmin2
      have hls1 := sumZ_less (c := fun x => ls.getD x 0) (d := fun x => ps.getD x 0) (q := r) (fun x hx => by rw [hLg, if_neg hx]) (by rw [hLg, if_pos rfl]) a1.nodup
      have hls2 := sumZ_less (c := fun x => ls.getD x 0) (d := fun x => ps.getD x 0) (q := r) (fun x hx => by rw [hLg, if_neg hx]) (by rw [hLg, if_pos rfl]) a2.nodup
      obtain ⟨i1, i2, _⟩ := hls1
      obtain ⟨i3, i4, _⟩ := hls2
      have hbp : ∀ x, x < ps.length → -20 ≤ ps.getD x 0 ∧ ps.getD x 0 ≤ 20 := fun x hx => by have := hPb x hx; omega
      have hbl2 : ∀ x, x < ls.length → -20 ≤ ls.getD x 0 ∧ ls.getD x 0 ≤ 20 := fun x hx => by
        rw [hLg]
        split
        · omega
        · have := hPb x (by omega); omega
      have hnn : 0 ≤ sumZ (fun x => ls.getD x 0) c2 := sumZ_nn fun x hx => by
        have := a2.lt x hx
        rw [hLg]
        split
        · omega
        · have := hPb x (by omega); omega
      have hc1l := a1.len
      have hc2l := a2.len
      have hbb := sumZ_bd (c := fun x => ps.getD x 0) (z := A) fun x hx => hbp x (by have := ga.lt x hx; omega)
      repeat' (first | refine zP ?_ | refine zA ?_ | (refine zM ?_; intro _ _) | refine zX ?_ | (refine zC ?_; intro _ _ _ _) | (refine zS ?_; intro _ _) | (apply Ws <;> intro hg))
      refine WR.callV (by first | exact gN | exact gS rfl) rfl rfl rfl (costC_fs hH13 hSp' hC1 (fun x hx => by have := a1.lt x hx; omega) hbp (by omega)) ?_
      rintro _ _ ⟨rfl, rfl⟩
      repeat' (first | refine zP ?_ | refine zA ?_ | (refine zM ?_; intro _ _) | refine zX ?_ | (refine zC ?_; intro _ _ _ _) | (refine zS ?_; intro _ _) | (apply Ws <;> intro hg))
      refine WR.callV (by first | exact gN | exact gS rfl) rfl rfl rfl (costC_fs hH13 hSl hC2 (fun x hx => by have := a2.lt x hx; omega) hbl2 (by omega)) ?_
      rintro _ _ ⟨rfl, rfl⟩
      repeat' (first | refine zP ?_ | refine zA ?_ | (refine zM ?_; intro _ _) | refine zX ?_ | (refine zC ?_; intro _ _ _ _) | (refine zS ?_; intro _ _) | (apply Ws <;> intro hg))
      refine WR.callV (by first | exact gN | exact gS rfl) rfl rfl rfl (costC_fs hH13 hSp' hF6' (fun x hx => by have := ga.lt x hx; omega) hbp (by omega)) ?_
      rintro _ _ ⟨rfl, rfl⟩
      generalize sumZ (fun x => ps.getD x 0) c1 = s1 at *
      generalize sumZ (fun x => ls.getD x 0) c2 = s2 at *
      generalize sumZ (fun x => ps.getD x 0) A = s3 at *
      have hs1 : s1 ≤ 200 := by omega
      repeat' (first | refine zP ?_ | refine zA ?_ | (refine zM ?_; intro _ _) | refine zX ?_ | (refine zC ?_; intro _ _ _ _) | (refine zS ?_; intro _ _) | refine zO ?_ | (apply Ws <;> intro hg))
      refine WR.call (by first | exact gN | exact gS rfl) rfl rfl hfin ?_
      rintro _ _ ⟨rfl, rfl⟩
      repeat' (first | refine zP ?_ | refine zA ?_ | (refine zM ?_; intro _ _) | refine zX ?_ | (refine zC ?_; intro _ _ _ _) | (refine zS ?_; intro _ _) | refine zO ?_ | (apply Ws <;> intro hg))
      exact Ends.ret1 rfl rfl
end
end Go.Proofs.Ytcfffhkabhmkmaa.Ps
