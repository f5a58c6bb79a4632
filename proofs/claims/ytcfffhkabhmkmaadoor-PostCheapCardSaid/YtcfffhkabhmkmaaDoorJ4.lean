/- Texts of the law, joined. -/
import Derived.Test.YtcfffhkabhmkmaaDoorJ3
/- Shores by numbers. -/
namespace Go.Proofs.YtcfffhkabhmkmaaDoor.Ps
open Go Go.Abs Go.Mth
set_option linter.unusedVariables false
set_option linter.unusedSimpArgs false
theorem u8k : C.c.P.underlying 5 = some (.int .u8) := by kernel_rfl
theorem i64k : C.c.P.underlying 3 = some (.int .i64) := by kernel_rfl
def mkS (by_ : List Nat) (n : Nat) : List Int := (List.range n).map fun i => if i = 0 then -1 else ((by_.getD i 0 % i : Nat) : Int)
theorem mkS_len (by_ : List Nat) (n : Nat) : (mkS by_ n).length = n := by simp [mkS]
theorem mkS_get {by_ : List Nat} {n i : Nat} (h : i < n) : (mkS by_ n).getD i 0 = if i = 0 then -1 else ((by_.getD i 0 % i : Nat) : Int) := by
  rw [getD_eq (by rw [mkS_len]; exact h)]; simp [mkS]
theorem mkS_succ (by_ : List Nat) (n : Nat) : mkS by_ (n + 1) = mkS by_ n ++ [if n = 0 then -1 else ((by_.getD n 0 % n : Nat) : Int)] := by simp [mkS, List.range_succ]
theorem mkS_ok (by_ : List Nat) {n : Nat} (h1 : 1 ≤ n) (h10 : n ≤ 10) : OKS (mkS by_ n) where
  one := by rw [mkS_len]; exact h1
  most := by rw [mkS_len]; exact h10
  root := by rw [mkS_get (by omega), if_pos rfl]
  par k hk hl := by
    rw [mkS_len] at hl
    rw [mkS_get hl, if_neg (by omega)]
    have := Nat.mod_lt (by_.getD k 0) (show 0 < k by omega)
    omega
theorem hm_grow {xs : List Int} (h : OKS xs) {k p : Nat} (hk1 : 1 ≤ k) (hk : k < xs.length) (hp : xs.getD k 0 = (p : Int)) (hpk : p < k) {l : List Nat} (hl : l.length = k) (hv : ∀ i, i < k → l.getD i 0 = hmTo xs k i) :
    ∀ i, i < k + 1 → ((l ++ [2 ^ k ||| 2 ^ p]).set p ((l ++ [2 ^ k ||| 2 ^ p]).getD p 0 ||| 2 ^ k)).getD i 0 = hmTo xs (k + 1) i := by
  obtain ⟨L, hL⟩ : ∃ L, l ++ List.replicate (xs.length - k) 0 = L := ⟨_, rfl⟩
  have hLl : L.length = xs.length := by rw [← hL]; simp [hl]; omega
  have hLv : ∀ i, i < xs.length → L.getD i 0 = hmTo xs k i := fun i hi => by
    by_cases e : i < k
    · rw [← hL, getD_app_l (by omega)]; exact hv i e
    · rw [hm_zero (by omega), ← hL, List.getD_eq_getElem?_getD, List.getElem?_append_right (by omega), List.getElem?_replicate]
      split <;> rfl
  have hs := hm_step h hk hp hpk hLl hLv
  have hLk : L.getD k 0 = 0 := by rw [hLv k hk, hm_zero (Nat.le_refl _)]
  intro i hi
  rw [← hs i (by omega)]
  have n1 : (L.set k (L.getD k 0 ||| 2 ^ k)).length = xs.length := by simp [hLl]
  have n2 : ((L.set k (L.getD k 0 ||| 2 ^ k)).set k ((L.set k (L.getD k 0 ||| 2 ^ k)).getD k 0 ||| 2 ^ p)).length = xs.length := by simp [hLl]
  have hsn : (l ++ [2 ^ k ||| 2 ^ p]).length = k + 1 := by simp [hl]
  rw [getD_set' (by omega), getD_set' (by omega)]
  have hlp : (l ++ [2 ^ k ||| 2 ^ p]).getD p 0 = L.getD p 0 := by rw [getD_app_l (by omega), hv p hpk, hLv p (by omega)]
  rw [getD_set' (by omega), if_neg (show ¬ p = k by omega), getD_set' (by omega), if_neg (show ¬ p = k by omega), hlp]
  by_cases e1 : i = p
  · rw [if_pos e1, if_pos e1]
  · rw [if_neg e1, if_neg e1, getD_set' (by omega)]
    by_cases e2 : i = k
    · rw [if_pos e2, getD_set' (by omega), if_pos rfl, hLk, Nat.zero_or, e2, ← hl, snoc_at]
    · rw [if_neg e2, getD_set' (by omega), if_neg e2, getD_app_l (by omega), hv i (by omega), hLv i (by omega)]
structure KH where
  k : Nat
  vs : Value
  vh : Value
  hs : List Nat
  MS : HL
  MH : HL
  n : Nat
theorem lt64 {a : Nat} (h : a < 1024) : a < capK .u64 := Nat.lt_of_lt_of_le h (by decide)
attribute [local irreducible] gOK WS WC WR WD Ends FS YS OpV seqK blockK loopK midK retK rdK asgK rangeEnd sat Cell
section
variable {M : HL} {n0 : Nat} {H : Heap} {v w : Value}
set_option maxHeartbeats 2000000 in
theorem made_fs (hH : hasH M n0 H) {x : Nat} {by_ : List Nat} (hx : x ≤ 255) (hb : ∀ y ∈ by_, y ≤ 255) (hbl : by_.length = 10) {most : Nat} (h1 : 1 ≤ most) (h10 : most ≤ 10) :
    FS C 8 [.agg (numsK .u8 (x :: by_)).toArray, .int .i64 (most : Int)] H (fun e H' => ∃ vs vh MS MH n', e = .tuple #[vs, vh] ∧ Own 3 1 vs (ints (mkS by_ (1 + x % most))) MS ∧ Own 29 1 vh (numsK .u64 (hsL (mkS by_ (1 + x % most)))) MH ∧ n0 ≤ n' ∧ hasH (MS ++ (MH ++ M)) n' H') := by
  have hone : (numsK .u8 (x :: by_)).all one = true := numsK_one _
  have hsl : (numsK .u8 (x :: by_)).length = 11 := by simp [numsK, hbl]
  have hg0 : (numsK .u8 (x :: by_))[0]? = some (.int .u8 (x : Int)) := rfl
  refine FS.intro (pf := pf8) rfl rfl rfl ?_
  refine WC.seq ?_
  refine WC.region ?_
  refine WR.boxA (cs := numsK .u8 (x :: by_)) (by first | exact gN | exact gS rfl) rfl hH rfl hone fun H1 hH1 => ?_
  repeat' (first | refine zP ?_ | refine zA ?_ | (refine zM ?_; intro _ _) | refine zX ?_ | (refine zC ?_; intro _ _ _ _) | (refine zS ?_; intro _ _) | (apply Ws <;> intro hg))
  refine WR.op (by first | exact gN | exact gS rfl) rfl (OpV.conv u8k i64k rfl (c := (x : Int)) (IntWalk.i64_in _ (by omega))) ?_
  have hmod := Nat.mod_lt x (show 0 < most by omega)
  repeat' (first | refine zP ?_ | refine zA ?_ | (refine zM ?_; intro _ _) | refine zX ?_ | (refine zC ?_; intro _ _ _ _) | (refine zS ?_; intro _ _) | (apply Ws <;> intro hg))
  rw [show (x : Int) % (most : Int) = ((x % most : Nat) : Int) by simp]
  obtain ⟨r, hr⟩ : ∃ r, x % most = r := ⟨_, rfl⟩
  rw [hr] at hmod ⊢
  repeat' (first | refine zP ?_ | refine zA ?_ | (refine zM ?_; intro _ _) | refine zX ?_ | (refine zC ?_; intro _ _ _ _) | (refine zS ?_; intro _ _) | (apply Ws <;> intro hg))
  rw [show (1 : Int) + (r : Int) = ((1 + r : Nat) : Int) by omega]
  obtain ⟨n, hn⟩ : ∃ n, 1 + r = n := ⟨_, rfl⟩
  rw [hn]
  have hn10 : 1 ≤ n ∧ n ≤ 10 := by omega
  have hok := mkS_ok by_ hn10.1 hn10.2
  have hlen := mkS_len by_ n
  clear hr hn hmod hH
  refine WR.bldS (by first | exact gN | exact gS rfl) rfl hH1 (vs := [(0, .int .i64 (-1))]) rfl (cs := [.int .i64 (-1)]) (by rfl) rfl fun H2 hH2 => ?_
  refine WR.bldS (by first | exact gN | exact gS rfl) rfl hH2 (vs := [(0, .int .u64 1)]) rfl (cs := [.int .u64 1]) (by rfl) rfl fun H3 hH3 => ?_
  have hH4 : hasH ([(n0 + 1, .inp 3 0 0 [.int .i64 (-1)])] ++ ([(n0 + 1 + 1, .inp 29 0 0 [.int .u64 1])] ++ ((n0, .row 24 0 0 (numsK .u8 (x :: by_))) :: M))) (n0 + 1 + 1 + 1) H3 := (hH3.asInp .here |>.asInp (.there .here)).swap
  have hOs : Own 3 1 (.slice (some ⟨n0 + 1, 0, some 0⟩) 1 (2 * 1 + 1)) (ints (mkS by_ 1)) [(n0 + 1, .inp 3 0 0 [.int .i64 (-1)])] := .full (len := 1) rfl rfl
  have hOh : Own 29 1 (.slice (some ⟨n0 + 1 + 1, 0, some 0⟩) 1 (2 * 1 + 1)) (numsK .u64 [1]) [(n0 + 1 + 1, .inp 29 0 0 [.int .u64 1])] := .full (len := 1) rfl rfl
  clear hH1 hH2 hH3
  repeat' (first | refine zP ?_ | refine zA ?_ | (refine zM ?_; intro _ _) | refine zX ?_ | (refine zC ?_; intro _ _ _ _) | (refine zS ?_; intro _ _) | (apply Ws <;> intro hg))
  refine WC.loopX [(2, _), (6, _)] (fun z : KH => [(9, .int .i64 (z.k : Int)), (7, z.vs), (8, z.vh)]) []
    (fun z H' => 1 ≤ z.k ∧ z.k ≤ n ∧ z.hs.length = z.k ∧ (∀ i, i < z.k → z.hs.getD i 0 = hmTo (mkS by_ n) z.k i) ∧ Own 3 1 z.vs (ints (mkS by_ z.k)) z.MS ∧ Own 29 1 z.vh (numsK .u64 z.hs) z.MH ∧ n0 ≤ z.n ∧ hasH (z.MS ++ (z.MH ++ ((n0, .row 24 0 0 (numsK .u8 (x :: by_))) :: M))) z.n H') (fun z => n - z.k)
    ⟨1, _, _, [1], _, _, n0 + 1 + 1 + 1⟩ (by repeat' (first | exact .nil | refine .cons rfl ?_)) rfl ⟨Nat.le_refl _, hn10.1, rfl, fun i hi => ?_, hOs, hOh, by simp only; omega, hH4⟩ ?_
  · have : i = 0 := by simp only at hi; omega
    subst this
    refine bits_ext fun j => ?_
    rw [hmTo_bit, show ([1] : List Nat).getD 0 0 = 2 ^ 0 from rfl, pow_bit]
    constructor
    · rintro rfl; exact ⟨by simp only; omega, by simp only; omega, adj_self _ _⟩
    · rintro ⟨_, h, _⟩; simp only at h; omega
  clear hH4 hOs hOh
  rintro ⟨k, vs, vh, hs, MS, MH, n1⟩ H2 ⟨hk1, hk, hhl, hhv, hOs, hOh, hn1, hH⟩
  simp only at hk1 hk hhl hhv hOs hOh hn1 hH
  have hm0 : (n0, Ch.row 24 0 0 (numsK .u8 (x :: by_))) ∈ MS ++ (MH ++ ((n0, .row 24 0 0 (numsK .u8 (x :: by_))) :: M)) := by simp
  dsimp only [List.cons_append, List.nil_append]
  repeat' (first | refine zP ?_ | refine zA ?_ | (refine zM ?_; intro _ _) | refine zX ?_ | (refine zC ?_; intro _ _ _ _) | (refine zS ?_; intro _ _) | (apply Ws <;> intro hg))
  refine WC.condP rfl (fun hlt => ?_) (fun hlt => ?_)
  · have hk' : k < n := by omega
    have hby : by_.getD k 0 ≤ 255 := hb _ (getD_mem (by omega))
    have hgk : (numsK .u8 (x :: by_))[1 + k]? = some (.int .u8 ((by_.getD k 0 : Nat) : Int)) := by
      unfold numsK
      rw [Nat.add_comm 1 k, List.map_cons, List.getElem?_cons_succ, List.getElem?_map, List.getElem?_eq_getElem (by omega), getD_eq (by omega)]; rfl
    repeat' (first | refine zP ?_ | refine zA ?_ | (refine zM ?_; intro _ _) | refine zX ?_ | (refine zC ?_; intro _ _ _ _) | (refine zS ?_; intro _ _) | (apply Ws <;> intro hg))
    refine WR.op (by first | exact gN | exact gS rfl) rfl (OpV.load1 (v := .int .u8 ((by_.getD k 0 : Nat) : Int)) rfl hH hm0 (.row _ _ _ _) (Nat.zero_le _) (by rw [Nat.sub_zero]; exact hgk)) ?_
    refine WR.op (by first | exact gN | exact gS rfl) rfl (OpV.conv u8k i64k rfl (c := ((by_.getD k 0 : Nat) : Int)) (IntWalk.i64_in _ (by omega))) ?_
    repeat' (first | refine zP ?_ | refine zA ?_ | (refine zM ?_; intro _ _) | refine zX ?_ | (refine zC ?_; intro _ _ _ _) | (refine zS ?_; intro _ _) | (apply Ws <;> intro hg))
    rw [show ((by_.getD k 0 : Nat) : Int) % (k : Int) = ((by_.getD k 0 % k : Nat) : Int) by simp]
    have hpm := Nat.mod_lt (by_.getD k 0) (show 0 < k by omega)
    have hss := mkS_succ by_ k
    rw [if_neg (by omega)] at hss
    have hgp := mkS_get (by_ := by_) hk'
    rw [if_neg (by omega)] at hgp
    have hgw := hm_grow hok hk1 (by rw [hlen]; exact hk') hgp hpm hhl hhv
    generalize by_.getD k 0 % k = p at hpm hss hgp hgw ⊢
    have hp1 : 2 ^ k < 1024 := by show 2 ^ k < 2 ^ 10; exact Nat.pow_lt_pow_right (by omega) (by omega)
    have hp2 : 2 ^ p < 1024 := by show 2 ^ p < 2 ^ 10; exact Nat.pow_lt_pow_right (by omega) (by omega)
    have hp3 : 2 ^ k ||| 2 ^ p < 1024 := Nat.or_lt_two_pow (n := 10) hp1 hp2
    repeat' (first | refine zP ?_ | refine zA ?_ | (refine zM ?_; intro _ _) | refine zX ?_ | (refine zC ?_; intro _ _ _ _) | (refine zS ?_; intro _ _) | (apply Ws <;> intro hg))
    refine WR.op (by first | exact gN | exact gS rfl) rfl (OpV.shl1 rfl rfl (by show k ≤ 64; omega) (lt64 hp1)) ?_
    repeat' (first | refine zP ?_ | refine zA ?_ | (refine zM ?_; intro _ _) | refine zX ?_ | (refine zC ?_; intro _ _ _ _) | (refine zS ?_; intro _ _) | (apply Ws <;> intro hg))
    refine WR.op (by first | exact gN | exact gS rfl) rfl (OpV.shl1 rfl rfl (by show p ≤ 64; omega) (lt64 hp2)) ?_
    refine WR.op (by first | exact gN | exact gS rfl) rfl (OpV.orN rfl rfl (lt64 hp1) (lt64 hp2)) ?_
    refine WR.append1RF [] MS (MH ++ ((n0, .row 24 0 0 (numsK .u8 (x :: by_))) :: M)) rfl rfl rfl rfl hOs hH (new := [.int .i64 (p : Int)]) rfl rfl rfl (Nat.le_refl _) (by decide) (by simp [mkS_len]; omega) fun vs2 MS2 n2 H3 hO2 hH3 hn2 => ?_
    refine WR.append1RF MS2 MH ((n0, .row 24 0 0 (numsK .u8 (x :: by_))) :: M) rfl rfl rfl rfl hOh hH3 (new := [.int .u64 ((2 ^ k ||| 2 ^ p : Nat) : Int)]) rfl rfl rfl (Nat.le_refl _) (by decide) (by simp; omega) fun vh2 MH2 n3 H4 hO3 hH4 hn3 => ?_
    clear hH hH3 hOs hOh
    have hO2' : Own 3 1 vs2 (ints (mkS by_ (k + 1))) MS2 := by rw [hss, ints, List.map_append]; exact hO2.own
    have hnn : numsK .u64 hs ++ [Value.int .u64 ((2 ^ k ||| 2 ^ p : Nat) : Int)] = numsK .u64 (hs ++ [2 ^ k ||| 2 ^ p]) := by simp [numsK]
    rw [hnn] at hO3
    have hls : (hs ++ [2 ^ k ||| 2 ^ p]).length = k + 1 := by simp [hhl]
    have hbp : (hs ++ [2 ^ k ||| 2 ^ p]).getD p 0 < 1024 := by rw [getD_app_l (by omega), hhv p (by omega)]; exact hmTo_lt p (by omega)
    generalize hs ++ [2 ^ k ||| 2 ^ p] = l2 at hO3 hls hbp hgw
    have hll : (numsK .u64 l2).length = (k + 1) * 1 := by simp [numsK, hls]
    generalize hq : numsK .u64 l2 = q2 at hO3 hll
    cases hO3 with
    | @mk b u o len _ hl3 =>
      have hlk : len = k + 1 := by omega
      subst hlk
      subst hq
      replace hH4 : hasH ((b, Ch.row 29 u o (numsK .u64 l2)) :: (MS2 ++ ((n0, .row 24 0 0 (numsK .u8 (x :: by_))) :: M))) n3 H4 := hH4.perm (List.perm_middle (l₁ := MS2) (a := (b, Ch.row 29 u o (numsK .u64 l2))))
      have hSh : Sl ((b, Ch.row 29 u o (numsK .u64 l2)) :: (MS2 ++ ((n0, .row 24 0 0 (numsK .u8 (x :: by_))) :: M))) 1 (.slice (some ⟨b, o, some u⟩) (k + 1) (2 * 1)) (numsK .u64 l2) := Own.sl (.row hl3) (MS2 ++ ((n0, .row 24 0 0 (numsK .u8 (x :: by_))) :: M))
      repeat' (first | refine zP ?_ | refine zA ?_ | (refine zM ?_; intro _ _) | refine zX ?_ | (refine zC ?_; intro _ _ _ _) | (refine zS ?_; intro _ _) | (apply Ws <;> intro hg))
      refine WR.op (by first | exact gN | exact gS rfl) rfl (OpV.load1 (v := .int .u64 ((l2.getD p 0 : Nat) : Int)) rfl hH4 (.head _) (.row _ _ _ _) (Nat.le_add_right _ _) (by rw [Nat.add_sub_cancel_left]; exact nodes_get (by omega))) ?_
      repeat' (first | refine zP ?_ | refine zA ?_ | (refine zM ?_; intro _ _) | refine zX ?_ | (refine zC ?_; intro _ _ _ _) | (refine zS ?_; intro _ _) | (apply Ws <;> intro hg))
      refine WR.op (by first | exact gN | exact gS rfl) rfl (OpV.shl1 rfl rfl (by show k ≤ 64; omega) (lt64 hp1)) ?_
      refine WR.op (by first | exact gN | exact gS rfl) rfl (OpV.orN rfl rfl (lt64 hbp) (lt64 hp1)) ?_
      repeat' (first | refine zP ?_ | refine zA ?_ | (refine zM ?_; intro _ _) | refine zX ?_ | (refine zC ?_; intro _ _ _ _) | (refine zS ?_; intro _ _) | (apply Ws <;> intro hg))
      refine WR.store1 (cs' := numsK .u64 (l2.set p (l2.getD p 0 ||| 2 ^ k))) (by first | exact gN | exact gS rfl) hH4 rfl rfl rfl .here (Nat.le_add_right _ _) (by rw [Nat.add_sub_cancel_left]; simp [numsK]; omega) (by rw [Nat.add_sub_cancel_left]; simp [numsK]) fun H5 hH5 => ?_
      repeat' (first | refine zP ?_ | refine zA ?_ | (refine zM ?_; intro _ _) | refine zX ?_ | (refine zC ?_; intro _ _ _ _) | (refine zS ?_; intro _ _) | (apply Ws <;> intro hg))
      exact Ends.loop ⟨k + 1, vs2, _, l2.set p (l2.getD p 0 ||| 2 ^ k), MS2, [(b, .row 29 u o (numsK .u64 (l2.set p (l2.getD p 0 ||| 2 ^ k))))], n3⟩ (by simp only; omega) (by repeat' (first | exact .nil | refine .cons rfl ?_)) rfl ⟨by simp only; omega, hk', by simpa using hls, hgw, hO2', .row (by simp [numsK, hls]), by simp only; omega, hH5.perm (List.perm_middle (l₁ := MS2)).symm⟩
  · have hkn : k = n := by omega
    subst hkn
    have hhs : hs = hsL (mkS by_ k) := by
      refine ext_getD (a := 0) (by rw [hsL_len, hlen, hhl]) fun i hi => ?_
      rw [hhv i (by omega), hsL_get (by omega)]
      have := hmTo_all (xs := mkS by_ k) (i := i) (by omega)
      rw [hlen] at this
      exact this
    subst hhs
    repeat' (first | refine zP ?_ | refine zA ?_ | (refine zM ?_; intro _ _) | refine zX ?_ | (refine zC ?_; intro _ _ _ _) | (refine zS ?_; intro _ _) | (apply Ws <;> intro hg))
    exact Ends.ret2 rfl rfl ⟨vs, vh, MS, MH, n1, rfl, hOs, hOh, hn1, (hH.perm (M' := (n0, .row 24 0 0 (numsK .u8 (x :: by_))) :: (MS ++ (MH ++ M))) (by classical exact List.perm_iff_count.2 (fun a => by simp only [defds, List.map_cons, List.map_nil, List.count_append, List.count_cons, List.count_nil, List.cons_append, List.nil_append, List.append_nil]; omega))).tail⟩
end
end Go.Proofs.YtcfffhkabhmkmaaDoor.Ps

/- Bits of numbers; sets as lists. -/
namespace Go.Abs
set_option linter.unusedSectionVars false
open Go
section
variable [Globs] {C : CW} {nt : Nat} {L : Env} {D : List Nat} {H : Heap} {K : St → Prop} {M M' : HL} {n : Nat} {gd : Option (Tmp × Bool)} {lo : List Nat} {l : List POp}
theorem OpV.idxG {x ix : Operand} {k : FloatKind} {g o m n sz : Nat} {kd : IntKind} (hx : ev L x = some (.complex k g o)) (hi : ev L ix = some (.int kd (m : Int))) (hm : m < n) : OpV C (.idxA x ix n sz) L H (.complex k g (o + m * sz)) H := fun t ht => by
  have e1 : natOf (.int kd (m : Int)) = some m := rfl
  simp only [opA, ev_ok ht hx, ev_ok ht hi, oIdxA, e1, blt_of hm, cond_true]
theorem OpV.loadG {x : Operand} {k : FloatKind} {g o : Nat} {v : Value} (hx : ev L x = some (.complex k g o)) (hv : gRead g o = some v) : OpV C (.load1 x) L H v H := fun t ht => by
  simp only [opA, ev_ok ht hx, oLoad1, hv, asVal]
theorem OpV.mulK {k : IntKind} {x y : Operand} {a b c : Int} (hx : ev L x = some (.int k a)) (hy : ev L y = some (.int k b)) (hc : k.wrap (a * b) = c) : OpV C (.ibin .mul k x y) L H (.int k c) H := by
  subst hc; exact OpV.arith hx hy (by simp only [ibinA, fitI_wrap])
theorem OpV.negK {dst : Option Tmp} {x : Operand} {s ty : TypeId} {pos : String} {af : Array Edge} {g : Option (Nat × Bool)} {k : IntKind} {a c : Int} (hx : ev L x = some (.int k a)) (hc : k.wrap (0 - a) = c) :
    OpV C (.plain ⟨dst, .unOp .neg s x, ty, pos, af, g⟩) L H (.int k c) H := by
  subst hc
  refine OpV.plain (fun t ht => ?_) (fun t ht => by simp [Op.operands, ev_ok ht hx, plainV, plain1]) rfl
  have e2 : pureRun C.c.P (Op.unary .neg (.int k a)) = some (.int k (k.wrap (0 - a))) := rfl
  simp only [pureNext, execOp, ev_ok ht hx, pureRun_bind, e2, Option.bind_some]
  rfl
end
end Go.Abs
namespace Go.Proofs.YtcfffhkabhmkmaaDoor.Ps
open Go Go.Abs Go.Mth
set_option linter.unusedVariables false
set_option linter.unusedSimpArgs false
theorem wrapI (z : Int) : IntKind.u64.wrap z = z % 18446744073709551616 := by
  simp [IntKind.wrap, IntKind.bits, IntKind.signed]
theorem wrapU (r : Nat) : IntKind.u64.wrap (r : Int) = ((r % 2 ^ 64 : Nat) : Int) := by
  rw [wrapI]; omega
def brT : List Nat := [0, 1, 56, 2, 57, 49, 28, 3, 61, 58, 42, 50, 38, 29, 17, 4, 62, 47, 59, 36, 45, 43, 51, 22, 53, 39, 33, 30, 24, 18, 12, 5, 63, 55, 48, 27, 60, 41, 37, 16, 46, 35, 44, 21, 52, 32, 23, 11, 54, 26, 40, 15, 34, 20, 31, 10, 25, 14, 19, 9, 13, 8, 7, 6]
theorem gread_br {m : Nat} (h : m < 64) : gRead 1 (0 + m * 1) = some (.int .u8 ((brT.getD m 0 : Nat) : Int)) := by
  have e : (numsK .u8 brT)[0 + m * 1]? = some (.int .u8 ((brT.getD m 0 : Nat) : Int)) := by
    rw [Nat.zero_add, Nat.mul_one]
    exact nodes_get (by simpa [brT] using h)
  show (match (numsK .u8 brT)[0 + m * 1]? with | some v => bif plain1 v then some v else none | none => none) = _
  rw [e]; rfl
def ngN (s : Nat) : Nat := (2 ^ 64 - s) % 2 ^ 64
def tzI (s : Nat) : Nat := ((s &&& ngN s) * 285870213051353865 % 2 ^ 64) >>> 58
theorem tz_ok : ∀ s, s < 1024 → s ≠ 0 → tzI s < 64 ∧ plcL s 10 = brT.getD (tzI s) 0 :: plcL (s &&& (s - 1)) 10 ∧ (s &&& (s - 1)) < s := by decide +kernel
theorem plcL_zero : plcL 0 10 = [] := by decide
attribute [local irreducible] gOK WS WC WR WD Ends FS YS OpV seqK blockK loopK midK retK rdK asgK rangeEnd sat Cell
section
variable {M : HL} {n0 : Nat} {H : Heap} {v w : Value}
theorem tz64_fs {s : Nat} (hs : s < 1024) (h0 : s ≠ 0) (H : Heap) : FS C 54 [.int .u64 (s : Int)] H (fun e H' => e = .int .i64 ((brT.getD (tzI s) 0 : Nat) : Int) ∧ H' = H) := by
  obtain ⟨h1, h2, h3⟩ := tz_ok s hs h0
  refine FS.intro (pf := pf54) rfl rfl rfl ?_
  repeat' (first | refine zP ?_ | refine zA ?_ | (refine zM ?_; intro _ _) | refine zX ?_ | (refine zC ?_; intro _ _ _ _) | (refine zS ?_; intro _ _) | refine zO ?_ | (apply Ws <;> intro hg))
  have hng : ngN s < 2 ^ 64 := Nat.mod_lt _ (by decide)
  have ha : s &&& ngN s < capK .u64 := and_cap (lt64 hs)
  have hbr : brT.getD (tzI s) 0 ≤ 255 := by
    have : ∀ i, i < 64 → brT.getD i 0 ≤ 255 := by decide
    exact this _ h1
  refine WR.op (by first | exact gN | exact gS rfl) rfl (OpV.negK rfl (c := ((ngN s : Nat) : Int)) (by rw [wrapI]; unfold ngN; omega)) ?_
  refine WR.op (by first | exact gN | exact gS rfl) rfl (OpV.andN rfl rfl (lt64 hs) hng) ?_
  refine WR.op (by first | exact gN | exact gS rfl) rfl (OpV.mulK rfl rfl (c := (((s &&& ngN s) * 285870213051353865 % 2 ^ 64 : Nat) : Int)) (by rw [show ((s &&& ngN s : Nat) : Int) * 285870213051353865 = (((s &&& ngN s) * 285870213051353865 : Nat) : Int) by omega]; exact wrapU _)) ?_
  refine WR.op (by first | exact gN | exact gS rfl) rfl (OpV.shrN (m := 58) rfl rfl (by decide)) ?_
  refine WR.op (by first | exact gN | exact gS rfl) rfl (OpV.idxG (m := tzI s) rfl rfl (by omega)) ?_
  refine WR.op (by first | exact gN | exact gS rfl) rfl (OpV.loadG rfl (gread_br h1)) ?_
  refine WR.op (by first | exact gN | exact gS rfl) rfl (OpV.conv u8k i64k rfl (c := ((brT.getD (tzI s) 0 : Nat) : Int)) (IntWalk.i64_in _ (by omega))) ?_
  repeat' (first | refine zP ?_ | refine zA ?_ | (refine zM ?_; intro _ _) | refine zX ?_ | (refine zC ?_; intro _ _ _ _) | (refine zS ?_; intro _ _) | (apply Ws <;> intro hg))
  exact Ends.ret1 rfl ⟨rfl, rfl⟩
theorem tz_fs {s : Nat} (hs : s < 1024) (h0 : s ≠ 0) (H : Heap) : FS C 30 [.int .u64 (s : Int)] H (fun e H' => e = .int .i64 ((brT.getD (tzI s) 0 : Nat) : Int) ∧ H' = H) := by
  refine FS.intro (pf := pf30) rfl rfl rfl ?_
  repeat' (first | refine zP ?_ | refine zA ?_ | (refine zM ?_; intro _ _) | refine zX ?_ | (refine zC ?_; intro _ _ _ _) | (refine zS ?_; intro _ _) | (apply Ws <;> intro hg))
  refine WR.call (by first | exact gN | exact gS rfl) rfl rfl (tz64_fs hs h0 _) ?_
  rintro _ _ ⟨rfl, rfl⟩
  repeat' (first | refine zP ?_ | refine zA ?_ | (refine zM ?_; intro _ _) | refine zX ?_ | (refine zC ?_; intro _ _ _ _) | (refine zS ?_; intro _ _) | (apply Ws <;> intro hg))
  exact Ends.ret1 rfl ⟨rfl, rfl⟩
structure KB where
  s : Nat
  done : List Nat
  v : Value
  Mx : HL
  n : Nat
theorem members_fs (hH : hasH M n0 H) {s : Nat} (hs : s < 1024) :
    FS C 9 [.int .u64 (s : Int)] H (fun e H' => ∃ Mx n', Own 3 1 e (nodes (plcL s 10)) Mx ∧ n0 ≤ n' ∧ hasH (Mx ++ M) n' H') := by
  refine FS.intro (pf := pf9) rfl rfl rfl ?_
  repeat' (first | refine zP ?_ | refine zA ?_ | (refine zM ?_; intro _ _) | refine zX ?_ | (refine zC ?_; intro _ _ _ _) | (refine zS ?_; intro _ _) | (apply Ws <;> intro hg))
  refine WC.loopX [] (fun z : KB => [(0, .int .u64 (z.s : Int)), (3, z.v)]) [] (fun z H' => z.s < 1024 ∧ z.done ++ plcL z.s 10 = plcL s 10 ∧ Own 3 1 z.v (nodes z.done) z.Mx ∧ n0 ≤ z.n ∧ hasH (z.Mx ++ M) z.n H') (fun z => z.s) ⟨s, [], .slice none 0 0, [], n0⟩ (by repeat' (first | exact .nil | refine .cons rfl ?_)) rfl ⟨hs, rfl, .nil, Nat.le_refl _, hH⟩ ?_
  clear hH
  rintro ⟨r, dn, v3, Mx, n1⟩ H1 ⟨hr, hd, hO, hn1, hH⟩
  simp only at hr hd hO hn1 hH
  have hdl : dn.length ≤ 10 := by
    have h1 := congrArg List.length hd
    have h2 := plcL_len s 10
    rw [List.length_append] at h1
    omega
  dsimp only [List.cons_append, List.nil_append]
  by_cases h0 : r = 0
  · subst h0
    rw [plcL_zero, List.append_nil] at hd
    rw [hd] at hO
    repeat' (first | refine zP ?_ | refine zA ?_ | (refine zM ?_; intro _ _) | refine zX ?_ | (refine zC ?_; intro _ _ _ _) | (refine zS ?_; intro _ _) | refine zO ?_ | (apply Ws <;> intro hg))
    exact Ends.ret1 rfl ⟨Mx, n1, hO, hn1, hH⟩
  · obtain ⟨h1, h2, h3⟩ := tz_ok r hr h0
    rw [h2] at hd
    repeat' (first | refine zP ?_ | refine zA ?_ | (refine zM ?_; intro _ _) | refine zX ?_ | (refine zC ?_; intro _ _ _ _) | (refine zS ?_; intro _ _) | refine zO ?_ | (apply Ws <;> intro hg))
    refine WR.call (by first | exact gN | exact gS rfl) rfl rfl (tz_fs hr h0 _) ?_
    rintro _ _ ⟨rfl, rfl⟩
    refine WR.append1F [] Mx M rfl rfl rfl rfl hO hH (new := [.int .i64 ((brT.getD (tzI r) 0 : Nat) : Int)]) rfl rfl rfl (Nat.le_refl _) (by decide) (by simp; omega) fun v' Mx' n' H' q1 q2 q3 => ?_
    repeat' (first | refine zP ?_ | refine zA ?_ | (refine zM ?_; intro _ _) | refine zX ?_ | (refine zC ?_; intro _ _ _ _) | (refine zS ?_; intro _ _) | (apply Ws <;> intro hg))
    refine WR.op (by first | exact gN | exact gS rfl) rfl (OpV.subK rfl rfl (c := ((r - 1 : Nat) : Int)) (by rw [wrapI]; omega)) ?_
    refine WR.op (by first | exact gN | exact gS rfl) rfl (OpV.andN rfl rfl (lt64 hr) (lt64 (by omega))) ?_
    repeat' (first | refine zP ?_ | refine zA ?_ | (refine zM ?_; intro _ _) | refine zX ?_ | (refine zC ?_; intro _ _ _ _) | (refine zS ?_; intro _ _) | (apply Ws <;> intro hg))
    refine Ends.loop ⟨r &&& (r - 1), dn ++ [brT.getD (tzI r) 0], v', Mx', n'⟩ h3 (by repeat' (first | exact .nil | refine .cons rfl ?_)) rfl ⟨by simp only; omega, by simp only; rw [← hd]; simp, ?_, by simp only; omega, q2⟩
    simp only
    rw [nodes_snoc]; exact q1
def grdS (xs : List Int) (s : Nat) : Bool := (List.range xs.length).all fun i => decide (hm xs i &&& s ≠ 0)
theorem isNone_fs (hH : hasH M n0 H) {h s b : Nat} (hh : h < 1024) (hs : s < 1024) (hm' : (b, Ch.row 29 0 0 [.int .u64 (s : Int)]) ∈ M) :
    FS C 32 ([] ++ [.int .u64 (h : Int)] ++ [ptrO b 0]) H (fun e H' => e = .bool (decide (h &&& s = 0)) ∧ H' = H) := by
  refine FS.intro (pf := pf32) rfl rfl rfl ?_
  repeat' (first | refine zP ?_ | refine zA ?_ | (refine zM ?_; intro _ _) | refine zX ?_ | (refine zC ?_; intro _ _ _ _) | (refine zS ?_; intro _ _) | (apply Ws <;> intro hg))
  refine WR.op (by first | exact gN | exact gS rfl) rfl (OpV.andN rfl rfl (lt64 hh) (lt64 hs)) ?_
  repeat' (first | refine zP ?_ | refine zA ?_ | (refine zM ?_; intro _ _) | refine zX ?_ | (refine zC ?_; intro _ _ _ _) | (refine zS ?_; intro _ _) | (apply Ws <;> intro hg))
  exact Ends.ret1 rfl ⟨by congr 1; rw [decide_eq_decide]; omega, rfl⟩
theorem guardsS_fs (hH : hasH M n0 H) {xs : List Int} (h10 : xs.length ≤ 10) (hS : Sl M 1 v (numsK .u64 (hsL xs))) {s : Nat} (hs : s < 1024) :
    FS C 10 [v, .int .u64 (s : Int)] H (fun e H' => e = .bool (grdS xs s) ∧ hasH M (n0 + 1) H') := by
  have hv := hS.one_
  have hl := hsL_len xs
  have hIdx : ∀ {H1 : Heap}, hasH ((n0, Ch.row 29 0 0 [.int .u64 (s : Int)]) :: M) (n0 + 1) H1 → FS C 55 [v, .func (.func 32) [].toArray [ptrO n0 0].toArray] H1 (fun e H' => e = .int .i64 (if grdS xs s = true then -1 else 0) ∧ H' = H1 ∨ (∃ k : Nat, e = .int .i64 (k : Int) ∧ grdS xs s = false ∧ H' = H1)) := by
    intro H1 hH1
    have hS1 := hS.cons (p := (n0, Ch.row 29 0 0 [.int .u64 (s : Int)]))
    refine FS.intro (pf := pf55) rfl rfl rfl ?_
    repeat' (first | refine zP ?_ | refine zA ?_ | (refine zM ?_; intro _ _) | refine zX ?_ | (refine zC ?_; intro _ _ _ _) | (refine zS ?_; intro _ _) | (apply Ws <;> intro hg))
    refine WC.loopX [(0, v), (1, _), (6, v), (7, _)] (fun k : Nat => [(8, .int .i64 (k : Int))]) [] (fun k H' => H' = H1 ∧ k ≤ xs.length ∧ ∀ i, i < k → hm xs i &&& s ≠ 0) (fun k => xs.length - k) 0 (by repeat' (first | exact .nil | refine .cons rfl ?_)) rfl ⟨rfl, Nat.zero_le _, fun i h => absurd h (Nat.not_lt_zero _)⟩ ?_
    rintro k H' ⟨rfl, hk, hall⟩
    dsimp only [List.cons_append, List.nil_append]
    repeat' (first | refine zP ?_ | refine zA ?_ | (refine zM ?_; intro _ _) | refine zX ?_ | (refine zC ?_; intro _ _ _ _) | (refine zS ?_; intro _ _) | (apply Ws <;> intro hg))
    refine WC.condP rfl (fun hlt => ?_) (fun hlt => ?_)
    · have hk' : k < xs.length := by omega
      have hg := hsL_get hk'
      have hb := hm_lt10 h10 k
      repeat' (first | refine zP ?_ | refine zA ?_ | (refine zM ?_; intro _ _) | refine zX ?_ | (refine zC ?_; intro _ _ _ _) | (refine zS ?_; intro _ _) | (apply Ws <;> intro hg))
      rw [hg]
      refine WR.callV (by first | exact gN | exact gS rfl) rfl rfl rfl (isNone_fs hH1 hb hs (.head _)) ?_
      rintro _ _ ⟨rfl, rfl⟩
      by_cases h0 : hm xs k &&& s = 0
      · rw [decide_eq_true h0]
        repeat' (first | refine zP ?_ | refine zA ?_ | (refine zM ?_; intro _ _) | refine zX ?_ | (refine zC ?_; intro _ _ _ _) | (refine zS ?_; intro _ _) | (apply Ws <;> intro hg))
        refine Ends.ret1 rfl (.inr ⟨k, rfl, ?_, rfl⟩)
        cases hgs : grdS xs s with
        | false => rfl
        | true =>
          have := List.all_eq_true.1 hgs k (List.mem_range.2 hk')
          exact absurd h0 (of_decide_eq_true this)
      · rw [decide_eq_false h0]
        repeat' (first | refine zP ?_ | refine zA ?_ | (refine zM ?_; intro _ _) | refine zX ?_ | (refine zC ?_; intro _ _ _ _) | (refine zS ?_; intro _ _) | (apply Ws <;> intro hg))
        refine Ends.loop (k + 1) (by omega) (by repeat' (first | exact .nil | refine .cons rfl ?_)) rfl ⟨rfl, hk', fun i hi => ?_⟩
        by_cases e : i = k
        · rw [e]; exact h0
        · exact hall i (by omega)
    · have hkl : k = xs.length := by omega
      subst hkl
      have hgs : grdS xs s = true := List.all_eq_true.2 fun i hi => decide_eq_true (hall i (List.mem_range.1 hi))
      repeat' (first | refine zP ?_ | refine zA ?_ | (refine zM ?_; intro _ _) | refine zX ?_ | (refine zC ?_; intro _ _ _ _) | (refine zS ?_; intro _ _) | (apply Ws <;> intro hg))
      exact Ends.ret1 rfl (.inl ⟨by rw [hgs, if_pos rfl], rfl⟩)
  have hCon : ∀ {H1 : Heap}, hasH ((n0, Ch.row 29 0 0 [.int .u64 (s : Int)]) :: M) (n0 + 1) H1 → FS C 31 [v, .func (.func 32) [].toArray [ptrO n0 0].toArray] H1 (fun e H' => e = .bool (!grdS xs s) ∧ H' = H1) := by
    intro H1 hH1
    refine FS.intro (pf := pf31) rfl rfl rfl ?_
    repeat' (first | refine zP ?_ | refine zA ?_ | (refine zM ?_; intro _ _) | refine zX ?_ | (refine zC ?_; intro _ _ _ _) | (refine zS ?_; intro _ _) | (apply Ws <;> intro hg))
    refine WR.call (by first | exact gN | exact gS rfl) rfl rfl (hIdx hH1) ?_
    rintro _ _ (⟨rfl, rfl⟩ | ⟨k, rfl, hg, rfl⟩)
    · cases hg : grdS xs s with
      | true =>
        repeat' (first | refine zP ?_ | refine zA ?_ | (refine zM ?_; intro _ _) | refine zX ?_ | (refine zC ?_; intro _ _ _ _) | (refine zS ?_; intro _ _) | (apply Ws <;> intro hg))
        exact Ends.ret1 rfl ⟨by simp, rfl⟩
      | false =>
        repeat' (first | refine zP ?_ | refine zA ?_ | (refine zM ?_; intro _ _) | refine zX ?_ | (refine zC ?_; intro _ _ _ _) | (refine zS ?_; intro _ _) | (apply Ws <;> intro hg))
        exact Ends.ret1 rfl ⟨by simp, rfl⟩
    · rw [hg]
      repeat' (first | refine zP ?_ | refine zA ?_ | (refine zM ?_; intro _ _) | refine zX ?_ | (refine zC ?_; intro _ _ _ _) | (refine zS ?_; intro _ _) | (apply Ws <;> intro hg))
      exact Ends.ret1 rfl ⟨by simp, rfl⟩
  refine FS.intro (pf := pf10) rfl rfl rfl ?_
  repeat' (first | refine zP ?_ | refine zA ?_ | (refine zM ?_; intro _ _) | refine zX ?_ | (refine zC ?_; intro _ _ _ _) | (refine zS ?_; intro _ _) | (apply Ws <;> intro hg))
  rename_i H1 hH1
  refine WR.call (by first | exact gN | exact gS rfl) rfl rfl (hCon hH1) ?_
  rintro _ _ ⟨rfl, rfl⟩
  cases hg : grdS xs s with
  | true =>
    repeat' (first | refine zP ?_ | refine zA ?_ | (refine zM ?_; intro _ _) | refine zX ?_ | (refine zC ?_; intro _ _ _ _) | (refine zS ?_; intro _ _) | (apply Ws <;> intro hg))
    exact Ends.ret1 rfl ⟨by simp, hH1.tail⟩
  | false =>
    repeat' (first | refine zP ?_ | refine zA ?_ | (refine zM ?_; intro _ _) | refine zX ?_ | (refine zC ?_; intro _ _ _ _) | (refine zS ?_; intro _ _) | (apply Ws <;> intro hg))
    exact Ends.ret1 rfl ⟨by simp, hH1.tail⟩
theorem plcL_lt {s x : Nat} (h : x ∈ plcL s 10) : x < 10 ∧ s.testBit x = true := by
  have := List.mem_filter.1 h
  exact ⟨List.mem_range.1 this.1, this.2⟩
theorem isNaN_fs (a : Int) (H : Heap) : FS C 56 [.int .i64 a] H (fun e H' => e = .bool false ∧ H' = H) := by
  refine FS.intro (pf := pf56) rfl rfl rfl ?_
  repeat' (first | refine zP ?_ | refine zA ?_ | (refine zM ?_; intro _ _) | refine zX ?_ | (refine zC ?_; intro _ _ _ _) | (refine zS ?_; intro _ _) | (apply Ws <;> intro hg))
  exact Ends.ret1 rfl ⟨by rw [decide_eq_false (by simp)], rfl⟩
theorem cmpI_fs (a b : Int) (H : Heap) : FS C 33 [.int .i64 a, .int .i64 b] H (fun e H' => e = .int .i64 (cmpI a b) ∧ H' = H) := by
  refine FS.intro (pf := pf33) rfl rfl rfl ?_
  repeat' (first | refine zP ?_ | refine zA ?_ | (refine zM ?_; intro _ _) | refine zX ?_ | (refine zC ?_; intro _ _ _ _) | (refine zS ?_; intro _ _) | (apply Ws <;> intro hg))
  refine WR.call (by first | exact gN | exact gS rfl) rfl rfl (isNaN_fs _ _) ?_
  rintro _ _ ⟨rfl, rfl⟩
  repeat' (first | refine zP ?_ | refine zA ?_ | (refine zM ?_; intro _ _) | refine zX ?_ | (refine zC ?_; intro _ _ _ _) | (refine zS ?_; intro _ _) | (apply Ws <;> intro hg))
  refine WR.call (by first | exact gN | exact gS rfl) rfl rfl (isNaN_fs _ _) ?_
  rintro _ _ ⟨rfl, rfl⟩
  repeat' (first | refine zP ?_ | refine zA ?_ | (refine zM ?_; intro _ _) | refine zX ?_ | (refine zC ?_; intro _ _ _ _) | (refine zS ?_; intro _ _) | (apply Ws <;> intro hg))
  refine WC.condP rfl (fun h1 => ?_) (fun h1 => ?_)
  · repeat' (first | refine zP ?_ | refine zA ?_ | (refine zM ?_; intro _ _) | refine zX ?_ | (refine zC ?_; intro _ _ _ _) | (refine zS ?_; intro _ _) | (apply Ws <;> intro hg))
    exact Ends.ret1 rfl ⟨by rw [cmpI, if_pos h1], rfl⟩
  · repeat' (first | refine zP ?_ | refine zA ?_ | (refine zM ?_; intro _ _) | refine zX ?_ | (refine zC ?_; intro _ _ _ _) | (refine zS ?_; intro _ _) | (apply Ws <;> intro hg))
    refine WC.condP rfl (fun h2 => ?_) (fun h2 => ?_)
    · repeat' (first | refine zP ?_ | refine zA ?_ | (refine zM ?_; intro _ _) | refine zX ?_ | (refine zC ?_; intro _ _ _ _) | (refine zS ?_; intro _ _) | (apply Ws <;> intro hg))
      exact Ends.ret1 rfl ⟨by rw [cmpI, if_neg h1, if_pos h2], rfl⟩
    · repeat' (first | refine zP ?_ | refine zA ?_ | (refine zM ?_; intro _ _) | refine zX ?_ | (refine zC ?_; intro _ _ _ _) | (refine zS ?_; intro _ _) | (apply Ws <;> intro hg))
      exact Ends.ret1 rfl ⟨by rw [cmpI, if_neg h1, if_neg h2], rfl⟩
theorem Compare_fs (hH : hasH M n0 H) {xs ys : List Int} (hS : Sl M 1 v (ints xs)) (hU : Sl M 1 w (ints ys)) (hx : xs.length ≤ 1000) (hy : ys.length ≤ 1000) :
    FS C 13 [v, w] H (fun e H' => e = .int .i64 (lexC xs ys) ∧ H' = H) := by
  refine FS.intro (pf := pf13) rfl rfl rfl ?_
  repeat' (first | refine zP ?_ | refine zA ?_ | (refine zM ?_; intro _ _) | refine zX ?_ | (refine zC ?_; intro _ _ _ _) | (refine zS ?_; intro _ _) | (apply Ws <;> intro hg))
  refine WC.loopX [(0, _), (1, _), (9, _), (10, _)] (fun k : Nat => [(11, .int .i64 (k : Int))]) [] (fun k H' => H' = H ∧ k ≤ xs.length ∧ k ≤ ys.length ∧ lexC xs ys = lexC (xs.drop k) (ys.drop k)) (fun k => xs.length - k) 0 (by repeat' (first | exact .nil | refine .cons rfl ?_)) rfl ⟨rfl, Nat.zero_le _, Nat.zero_le _, rfl⟩ ?_
  rintro k _ ⟨rfl, hk, hk2, hL⟩
  dsimp only [List.cons_append, List.nil_append]
  repeat' (first | refine zP ?_ | refine zA ?_ | (refine zM ?_; intro _ _) | refine zX ?_ | (refine zC ?_; intro _ _ _ _) | (refine zS ?_; intro _ _) | (apply Ws <;> intro hg))
  refine WC.condP rfl (fun hlt => ?_) (fun hlt => ?_)
  · have hk' : k < xs.length := by omega
    rw [List.drop_eq_getElem_cons hk'] at hL
    repeat' (first | refine zP ?_ | refine zA ?_ | (refine zM ?_; intro _ _) | refine zX ?_ | (refine zC ?_; intro _ _ _ _) | (refine zS ?_; intro _ _) | (apply Ws <;> intro hg))
    refine WC.condP rfl (fun hge => ?_) (fun hge => ?_)
    · have hke : k = ys.length := by omega
      repeat' (first | refine zP ?_ | refine zA ?_ | (refine zM ?_; intro _ _) | refine zX ?_ | (refine zC ?_; intro _ _ _ _) | (refine zS ?_; intro _ _) | (apply Ws <;> intro hg))
      refine Ends.ret1 rfl ⟨?_, rfl⟩
      rw [hL, show ys.drop k = [] from List.drop_eq_nil_of_le (by omega)]; rfl
    · have hk3 : k < ys.length := by omega
      rw [List.drop_eq_getElem_cons hk3, lexC, ← getD_eq (a := 0) hk', ← getD_eq (a := 0) hk3] at hL
      repeat' (first | refine zP ?_ | refine zA ?_ | (refine zM ?_; intro _ _) | refine zX ?_ | (refine zC ?_; intro _ _ _ _) | (refine zS ?_; intro _ _) | (apply Ws <;> intro hg))
      refine WR.call (by first | exact gN | exact gS rfl) rfl rfl (cmpI_fs _ _ _) ?_
      rintro _ _ ⟨rfl, rfl⟩
      repeat' (first | refine zP ?_ | refine zA ?_ | (refine zM ?_; intro _ _) | refine zX ?_ | (refine zC ?_; intro _ _ _ _) | (refine zS ?_; intro _ _) | (apply Ws <;> intro hg))
      refine WC.condP rfl (fun hne => ?_) (fun hne => ?_)
      · repeat' (first | refine zP ?_ | refine zA ?_ | (refine zM ?_; intro _ _) | refine zX ?_ | (refine zC ?_; intro _ _ _ _) | (refine zS ?_; intro _ _) | (apply Ws <;> intro hg))
        exact Ends.ret1 rfl ⟨by rw [hL, if_pos hne], rfl⟩
      · repeat' (first | refine zP ?_ | refine zA ?_ | (refine zM ?_; intro _ _) | refine zX ?_ | (refine zC ?_; intro _ _ _ _) | (refine zS ?_; intro _ _) | (apply Ws <;> intro hg))
        exact Ends.loop (k + 1) (by omega) (by repeat' (first | exact .nil | refine .cons rfl ?_)) rfl ⟨rfl, by omega, by omega, by rw [hL, if_neg hne]⟩
  · have hkl : k = xs.length := by omega
    rw [show xs.drop k = [] from List.drop_eq_nil_of_le (by omega)] at hL
    repeat' (first | refine zP ?_ | refine zA ?_ | (refine zM ?_; intro _ _) | refine zX ?_ | (refine zC ?_; intro _ _ _ _) | (refine zS ?_; intro _ _) | (apply Ws <;> intro hg))
    refine WC.condP rfl (fun h3 => ?_) (fun h3 => ?_)
    · rw [List.drop_eq_getElem_cons (show k < ys.length by omega)] at hL
      repeat' (first | refine zP ?_ | refine zA ?_ | (refine zM ?_; intro _ _) | refine zX ?_ | (refine zC ?_; intro _ _ _ _) | (refine zS ?_; intro _ _) | (apply Ws <;> intro hg))
      exact Ends.ret1 rfl ⟨by rw [hL]; rfl, rfl⟩
    · rw [show ys.drop k = [] from List.drop_eq_nil_of_le (by omega)] at hL
      repeat' (first | refine zP ?_ | refine zA ?_ | (refine zM ?_; intro _ _) | refine zX ?_ | (refine zC ?_; intro _ _ _ _) | (refine zS ?_; intro _ _) | (apply Ws <;> intro hg))
      exact Ends.ret1 rfl ⟨by rw [hL]; rfl, rfl⟩

theorem CompareN_fs (hH : hasH M n0 H) {xs ys : List Nat} (hS : Sl M 1 v (nodes xs)) (hU : Sl M 1 w (nodes ys)) (hx : xs.length ≤ 1000) (hy : ys.length ≤ 1000) :
    FS C 13 [v, w] H (fun e H' => e = .int .i64 (lexC (IL xs) (IL ys)) ∧ H' = H) :=
  Compare_fs hH (by rw [← nodes_IL]; exact hS) (by rw [← nodes_IL]; exact hU) (by rw [IL_len]; exact hx) (by rw [IL_len]; exact hy)
end
end Go.Proofs.YtcfffhkabhmkmaaDoor.Ps

/- The lists that cost the least, one after the other. -/
namespace Go.Proofs.YtcfffhkabhmkmaaDoor.Ps
open Go Go.Abs Go.Mth
set_option linter.unusedVariables false
set_option linter.unusedSimpArgs false
theorem snocInd {α : Type} {P : List α → Prop} (h0 : P []) (h1 : ∀ l x, P l → P (l ++ [x])) (l : List α) : P l := by
  have : ∀ r : List α, P r.reverse := by
    intro r
    induction r with
    | nil => exact h0
    | cons x r ih => rw [List.reverse_cons]; exact h1 _ _ ih
  have h := this l.reverse
  rwa [List.reverse_reverse] at h
theorem bestF_inv (c : List Nat → Int) (zs : List (List Nat)) : (zs = [] ∧ bestF c zs = ([], 0)) ∨ ((∀ z ∈ zs, (bestF c zs).2 ≤ c z) ∧ (bestF c zs).1 = zs.filter (fun z => decide (c z = (bestF c zs).2)) ∧ (bestF c zs).1 ≠ []) := by
  refine snocInd (P := fun zs => (zs = [] ∧ bestF c zs = ([], 0)) ∨ ((∀ z ∈ zs, (bestF c zs).2 ≤ c z) ∧ (bestF c zs).1 = zs.filter (fun z => decide (c z = (bestF c zs).2)) ∧ (bestF c zs).1 ≠ [])) (.inl ⟨rfl, rfl⟩) (fun l x ih => ?_) zs
  right
  rw [bestF_snoc]
  rcases ih with ⟨rfl, h⟩ | ⟨h1, h2, h3⟩
  · rw [h]
    simp [bestS]
  · obtain ⟨B, m, hb⟩ : ∃ B m, bestF c l = (B, m) := ⟨_, _, rfl⟩
    rw [hb] at h1 h2 h3 ⊢
    simp only at h1 h2 h3
    unfold bestS
    simp only
    by_cases hc : c x < m
    · rw [if_pos (.inr hc)]
      refine ⟨fun z hz => ?_, ?_, by simp⟩
      · rcases List.mem_append.1 hz with hz | hz
        · have := h1 z hz; simp only; omega
        · rw [List.mem_singleton.1 hz]; exact Int.le_refl _
      · simp only
        rw [List.filter_append, List.filter_eq_nil_iff.2 fun z hz => by have := h1 z hz; simp; omega]
        simp
    · rw [if_neg (by rintro (h | h); exact h3 h; exact hc h)]
      by_cases he : c x = m
      · rw [if_pos he]
        refine ⟨fun z hz => ?_, ?_, by simp⟩
        · rcases List.mem_append.1 hz with hz | hz
          · exact h1 z hz
          · rw [List.mem_singleton.1 hz]; simp only; omega
        · simp only
          rw [List.filter_append, List.filter_cons_of_pos (by simpa using he), ← h2]; rfl
      · rw [if_neg he]
        refine ⟨fun z hz => ?_, ?_, h3⟩
        · rcases List.mem_append.1 hz with hz | hz
          · exact h1 z hz
          · rw [List.mem_singleton.1 hz]; simp only; omega
        · simp only
          rw [List.filter_append, List.filter_cons_of_neg (by simpa using he), ← h2]; simp
theorem sumZ_len (z : List Nat) : sumZ (fun _ => 1) z = (z.length : Int) := by
  induction z with
  | nil => rfl
  | cons x z ih => have : sumZ (fun _ => 1) (x :: z) = 1 + sumZ (fun _ => 1) z := by simp [sumZ]
                   rw [this, ih, List.length_cons]; omega
theorem sumZ_neg (z : List Nat) : sumZ (fun _ => -1) z = -(z.length : Int) := by
  induction z with
  | nil => rfl
  | cons x z ih => have : sumZ (fun _ => -1) (x :: z) = -1 + sumZ (fun _ => -1) z := by simp [sumZ]
                   rw [this, ih, List.length_cons]; omega
def fstB (c : List Nat → Int) (zs : List (List Nat)) : List Nat := (bestF c zs).1.getD 0 []
theorem bestF_all {c : List Nat → Int} {zs : List (List Nat)} {z : List Nat} (h : z ∈ (bestF c zs).1) : z ∈ zs ∧ c z = (bestF c zs).2 := by
  rcases bestF_inv c zs with ⟨rfl, h1⟩ | ⟨_, h2, _⟩
  · rw [h1] at h; cases h
  · rw [h2] at h
    have := List.mem_filter.1 h
    exact ⟨this.1, by simpa using this.2⟩
theorem fstB_mem {c : List Nat → Int} {zs : List (List Nat)} (h : zs ≠ []) : fstB c zs ∈ (bestF c zs).1 := by
  unfold fstB
  exact getD_mem (List.length_pos_iff.2 (bestF_ne h))
theorem fstB_cost {c : List Nat → Int} {zs : List (List Nat)} (h : zs ≠ []) : c (fstB c zs) = (bestF c zs).2 := (bestF_all (fstB_mem h)).2
theorem bestF_le {c : List Nat → Int} {zs : List (List Nat)} {z : List Nat} (h : z ∈ zs) : (bestF c zs).2 ≤ c z := by
  rcases bestF_inv c zs with ⟨rfl, h1⟩ | ⟨h1, _, _⟩
  · cases h
  · exact h1 z h
end Go.Proofs.YtcfffhkabhmkmaaDoor.Ps

/- As few posts guard as places can be apart; at most half of the places; a place more. -/
namespace Go.Proofs.YtcfffhkabhmkmaaDoor.Ps
open Go Go.Abs Go.Mth
set_option linter.unusedVariables false
set_option linter.unusedSimpArgs false
def selL (n : Nat) (f : Nat → Bool) : List Nat := (List.range n).filter f
theorem selL_asc (n : Nat) (f : Nat → Bool) : AscN n (selL n f) := ⟨List.pairwise_lt_range.sublist List.filter_sublist, fun x hx => List.mem_range.1 (List.mem_filter.1 hx).1⟩
theorem mem_selL {n : Nat} {f : Nat → Bool} {x : Nat} : x ∈ selL n f ↔ x < n ∧ f x = true := by simp [selL]
theorem asc_sel {n : Nat} {l : List Nat} (h : AscN n l) : l = selL n (fun x => decide (x ∈ l)) := by
  have hs := selL_asc n fun x => decide (x ∈ l)
  have key : ∀ {a b : List Nat}, a.Pairwise (· < ·) → b.Pairwise (· < ·) → (∀ x, x ∈ a ↔ x ∈ b) → a = b := by
    intro a
    induction a with
    | nil =>
      intro b _ _ hm
      cases b with
      | nil => rfl
      | cons y b => exact absurd ((hm y).2 (by simp)) (by simp)
    | cons x a ih =>
      intro b h1 h2 hm
      cases b with
      | nil => exact absurd ((hm x).1 (by simp)) (by simp)
      | cons y b =>
        obtain ⟨k1, k2⟩ := List.pairwise_cons.1 h1
        obtain ⟨k3, k4⟩ := List.pairwise_cons.1 h2
        have hxy : x = y := by
          rcases List.mem_cons.1 ((hm x).1 (by simp)) with e | e
          · exact e
          · rcases List.mem_cons.1 ((hm y).2 (by simp)) with e2 | e2
            · exact e2.symm
            · have := k3 x e; have := k1 y e2; omega
        subst hxy
        rw [ih k2 k4 fun z => ?_]
        constructor
        · intro hz
          rcases List.mem_cons.1 ((hm z).1 (by simp [hz])) with e | e
          · have := k1 z hz; omega
          · exact e
        · intro hz
          rcases List.mem_cons.1 ((hm z).2 (by simp [hz])) with e | e
          · have := k3 z hz; omega
          · exact e
  refine key h.asc hs.asc fun x => ?_
  rw [mem_selL, decide_eq_true_eq]
  exact ⟨fun hx => ⟨h.lt x hx, hx⟩, fun hx => hx.2⟩
def few (xs : List Int) : List Nat := (fewB xs).getD 0 []
def far (xs : List Int) : List Nat := (aptB xs).getD 0 []
theorem few_mem (xs : List Int) : few xs ∈ grdL xs := (bestF_all (fstB_mem (grdL_ne xs))).1
theorem far_mem (xs : List Int) : far xs ∈ aptL xs := (bestF_all (fstB_mem (aptL_ne xs))).1
theorem few_grd (xs : List Int) : AscN xs.length (few xs) ∧ grd xs (few xs) = true := ⟨grdL_asc _ (few_mem xs), (List.mem_filter.1 (few_mem xs)).2⟩
theorem far_apt (xs : List Int) : AscN xs.length (far xs) ∧ apt xs (far xs) = true := ⟨aptL_asc _ (far_mem xs), (List.mem_filter.1 (far_mem xs)).2⟩
theorem few_le {xs : List Int} {z : List Nat} (h : AscN xs.length z) (hg : grd xs z = true) : (few xs).length ≤ z.length := by
  have h1 := bestF_le (c := sumZ fun _ => 1) (zs := grdL xs) (z := z) (List.mem_filter.2 ⟨mem_allA.2 h, hg⟩)
  have h2 := fstB_cost (c := sumZ fun _ => 1) (grdL_ne xs)
  have e : fstB (sumZ fun _ => 1) (grdL xs) = few xs := rfl
  rw [← h2, e, sumZ_len, sumZ_len] at h1
  omega
theorem far_ge {xs : List Int} {z : List Nat} (h : AscN xs.length z) (hg : apt xs z = true) : z.length ≤ (far xs).length := by
  have h1 := bestF_le (c := sumZ fun _ => -1) (zs := aptL xs) (z := z) (List.mem_filter.2 ⟨mem_allA.2 h, hg⟩)
  have h2 := fstB_cost (c := sumZ fun _ => -1) (aptL_ne xs)
  have e : fstB (sumZ fun _ => -1) (aptL xs) = far xs := rfl
  rw [← h2, e, sumZ_neg, sumZ_neg] at h1
  omega
end Go.Proofs.YtcfffhkabhmkmaaDoor.Ps

/- Sets by numbers are lists of places; the first of the best lists. -/
namespace Go.Proofs.YtcfffhkabhmkmaaDoor.Ps
open Go Go.Abs Go.Mth
set_option linter.unusedVariables false
set_option linter.unusedSimpArgs false
def ordN (l m : List Nat) : Prop := l.length < m.length ∨ (l.length = m.length ∧ lexN l m)
instance ordN_dec (l m : List Nat) : Decidable (ordN l m) := by unfold ordN; infer_instance
theorem ordN_irr (l : List Nat) : ¬ ordN l l := by
  rintro (h | ⟨_, h⟩)
  · exact Nat.lt_irrefl _ h
  · exact lexN_irr l h
theorem ordN_tri {l m : List Nat} (h : l ≠ m) : ordN l m ∨ ordN m l := by
  rcases Nat.lt_trichotomy l.length m.length with e | e | e
  · exact .inl (.inl e)
  · rcases lexN_tri h with k | k
    · exact .inl (.inr ⟨e, k⟩)
    · exact .inr (.inr ⟨e.symm, k⟩)
  · exact .inr (.inl e)
theorem lexN_trans : ∀ {a b c : List Nat}, lexN a b → lexN b c → lexN a c := fun {a b c} h1 h2 => lexN_C.1 (lex_trans _ _ _ (lexN_C.2 h1) (lexN_C.2 h2))
theorem ordN_trans {a b c : List Nat} (h1 : ordN a b) (h2 : ordN b c) : ordN a c := by
  rcases h1 with h1 | ⟨h1, h3⟩ <;> rcases h2 with h2 | ⟨h2, h4⟩
  · exact .inl (by omega)
  · exact .inl (by omega)
  · exact .inl (by omega)
  · exact .inr ⟨by omega, lexN_trans h3 h4⟩
def lonN (l m : List Nat) : Prop := m.length < l.length ∨ (l.length = m.length ∧ lexN l m)
instance lonN_dec (l m : List Nat) : Decidable (lonN l m) := by unfold lonN; infer_instance
theorem lonN_irr (l : List Nat) : ¬ lonN l l := by
  rintro (h | ⟨_, h⟩)
  · exact Nat.lt_irrefl _ h
  · exact lexN_irr l h
theorem lonN_tri {l m : List Nat} (h : l ≠ m) : lonN l m ∨ lonN m l := by
  rcases Nat.lt_trichotomy l.length m.length with e | e | e
  · exact .inr (.inl e)
  · rcases lexN_tri h with k | k
    · exact .inl (.inr ⟨e, k⟩)
    · exact .inr (.inr ⟨e.symm, k⟩)
  · exact .inl (.inl e)
theorem lonN_trans {a b c : List Nat} (h1 : lonN a b) (h2 : lonN b c) : lonN a c := by
  rcases h1 with h1 | ⟨h1, h3⟩ <;> rcases h2 with h2 | ⟨h2, h4⟩
  · exact .inl (by omega)
  · exact .inl (by omega)
  · exact .inl (by omega)
  · exact .inr ⟨by omega, lexN_trans h3 h4⟩
theorem fst_least {c : List Nat → Int} {zs : List (List Nat)} (hs : zs.Pairwise lexN) {z : List Nat} (hz : z ∈ zs) (hc : c z = (bestF c zs).2) : z = fstB c zs ∨ lexN (fstB c zs) z := by
  rcases bestF_inv c zs with ⟨rfl, _⟩ | ⟨_, h2, h3⟩
  · cases hz
  · have hm : z ∈ (bestF c zs).1 := by rw [h2]; exact List.mem_filter.2 ⟨hz, by simpa using hc⟩
    have hp : (bestF c zs).1.Pairwise lexN := by rw [h2]; exact hs.sublist List.filter_sublist
    unfold fstB
    cases hB : (bestF c zs).1 with
    | nil => exact absurd hB h3
    | cons b B =>
      rw [hB] at hm hp
      rcases List.mem_cons.1 hm with e | e
      · exact .inl e
      · exact .inr ((List.pairwise_cons.1 hp).1 z e)
theorem few_first {xs : List Int} {z : List Nat} (h : AscN xs.length z) (hg : grd xs z = true) : ¬ ordN z (few xs) := by
  have hz : z ∈ grdL xs := List.mem_filter.2 ⟨mem_allA.2 h, hg⟩
  have hs : (grdL xs).Pairwise lexN := (allA_sorted _).sublist List.filter_sublist
  have hle := few_le h hg
  have h2 := fstB_cost (c := sumZ fun _ => 1) (grdL_ne xs)
  have e : fstB (sumZ fun _ => 1) (grdL xs) = few xs := rfl
  rw [e, sumZ_len] at h2
  rintro (hl | ⟨hl, hx⟩)
  · omega
  · rcases fst_least (c := sumZ fun _ => 1) hs hz (by rw [sumZ_len, ← h2, hl]) with k | k
    · rw [e] at k; rw [k] at hx; exact lexN_irr _ hx
    · rw [e] at k; exact lexN_asym hx k
theorem far_first {xs : List Int} {z : List Nat} (h : AscN xs.length z) (hg : apt xs z = true) : ¬ lonN z (far xs) := by
  have hz : z ∈ aptL xs := List.mem_filter.2 ⟨mem_allA.2 h, hg⟩
  have hs : (aptL xs).Pairwise lexN := (allA_sorted _).sublist List.filter_sublist
  have hle := far_ge h hg
  have h2 := fstB_cost (c := sumZ fun _ => -1) (aptL_ne xs)
  have e : fstB (sumZ fun _ => -1) (aptL xs) = far xs := rfl
  rw [e, sumZ_neg] at h2
  rintro (hl | ⟨hl, hx⟩)
  · omega
  · rcases fst_least (c := sumZ fun _ => -1) hs hz (by rw [sumZ_neg, ← h2, hl]) with k | k
    · rw [e] at k; rw [k] at hx; exact lexN_irr _ hx
    · rw [e] at k; exact lexN_asym hx k
/-! Sets. -/
theorem plcL_sel (s : Nat) : plcL s 10 = selL 10 s.testBit := rfl
theorem set_lt {n s x : Nat} (hs : s < 2 ^ n) (h : s.testBit x = true) : x < n := by
  refine Nat.lt_of_not_le fun hc => ?_
  have := Nat.testBit_lt_two_pow (Nat.lt_of_lt_of_le hs (Nat.pow_le_pow_right (by omega) hc))
  rw [h] at this; cases this
theorem plcL_asc {n s : Nat} (hs : s < 2 ^ n) : AscN n (plcL s 10) := ⟨(selL_asc 10 s.testBit).asc, fun x hx => set_lt hs (plcL_lt hx).2⟩
theorem plcL_mem {n s x : Nat} (hn : n ≤ 10) (hs : s < 2 ^ n) : x ∈ plcL s 10 ↔ s.testBit x = true := by
  rw [plcL_sel, mem_selL]
  exact ⟨fun h => h.2, fun h => ⟨by have := set_lt hs h; omega, h⟩⟩
theorem plcL_mask {n : Nat} (hn : n ≤ 10) {z : List Nat} (h : AscN n z) : maskN z < 2 ^ n ∧ plcL (maskN z) 10 = z := by
  have h1 := mask_lt h.lt
  refine ⟨h1, ?_⟩
  have h10 : AscN 10 z := ⟨h.asc, fun x hx => by have := h.lt x hx; omega⟩
  rw [plcL_sel]
  refine Eq.trans ?_ (asc_sel h10).symm
  unfold selL
  refine List.filter_congr fun x hx => ?_
  rw [Bool.eq_iff_iff, decide_eq_true_eq, mask_bit]
theorem grdS_iff {xs : List Int} {s : Nat} (hn : xs.length ≤ 10) (hs : s < 2 ^ xs.length) : grdS xs s = grd xs (plcL s 10) := by
  rw [Bool.eq_iff_iff, grd_iff]
  unfold grdS
  rw [List.all_eq_true]
  constructor
  · intro h i hi
    have h1 := of_decide_eq_true (h i (List.mem_range.2 hi))
    refine Classical.byContradiction fun hc => h1 (and_zero.2 fun j hj => hc ⟨j, (plcL_mem hn hs).2 hj.2, ?_⟩)
    rw [adj_comm]; exact (hm_bit.1 hj.1).2
  · intro h i hi
    have hi' := List.mem_range.1 hi
    obtain ⟨p, hp, ha⟩ := h i hi'
    refine decide_eq_true fun h0 => and_zero.1 h0 p ⟨hm_bit.2 ⟨(plcL_asc hs).lt p hp, by rw [adj_comm]; exact ha⟩, (plcL_mem hn hs).1 hp⟩
def FewI (xs : List Int) (k : Nat) (fw : List Nat) (fo : Bool) : Prop := (fo = false ∧ fw = [] ∧ ∀ s, s < k → grdS xs s = false) ∨ (fo = true ∧ (∃ s, s < k ∧ grdS xs s = true ∧ fw = plcL s 10) ∧ ∀ s, s < k → grdS xs s = true → ¬ ordN (plcL s 10) fw)
def ManI (xs : List Int) (k : Nat) (mn : List Nat) : Prop := (mn = [] ∨ ∃ s, s < k ∧ apt xs (plcL s 10) = true ∧ mn = plcL s 10) ∧ ∀ s, s < k → apt xs (plcL s 10) = true → ¬ lonN (plcL s 10) mn
theorem FewI.keep {xs : List Int} {k : Nat} {fw : List Nat} {fo : Bool} (h : FewI xs k fw fo) (hn : grdS xs k = false ∨ (fo = true ∧ ¬ ordN (plcL k 10) fw)) : FewI xs (k + 1) fw fo := by
  rcases h with ⟨h1, h2, h3⟩ | ⟨h1, ⟨s, h2, h3, h4⟩, h5⟩
  · refine .inl ⟨h1, h2, fun s hs => ?_⟩
    by_cases e : s = k
    · rcases hn with hn | hn
      · rw [e]; exact hn
      · rw [h1] at hn; cases hn.1
    · exact h3 s (by omega)
  · refine .inr ⟨h1, ⟨s, by omega, h3, h4⟩, fun t ht hg => ?_⟩
    by_cases e : t = k
    · rcases hn with hn | hn
      · rw [e, hn] at hg; cases hg
      · rw [e]; exact hn.2
    · exact h5 t (by omega) hg
theorem FewI.take {xs : List Int} {k : Nat} {fw : List Nat} {fo : Bool} (h : FewI xs k fw fo) (hg : grdS xs k = true) (ho : fo = false ∨ ordN (plcL k 10) fw) : FewI xs (k + 1) (plcL k 10) true := by
  refine .inr ⟨rfl, ⟨k, by omega, hg, rfl⟩, fun t ht hgt hlt => ?_⟩
  by_cases e : t = k
  · rw [e] at hlt; exact ordN_irr _ hlt
  · rcases h with ⟨h1, h2, h3⟩ | ⟨h1, h2, h5⟩
    · rw [h3 t (by omega)] at hgt; cases hgt
    · rcases ho with ho | ho
      · rw [h1] at ho; cases ho
      · exact h5 t (by omega) hgt (ordN_trans hlt ho)
theorem ManI.keep {xs : List Int} {k : Nat} {mn : List Nat} (h : ManI xs k mn) (hn : apt xs (plcL k 10) = false ∨ ¬ lonN (plcL k 10) mn) : ManI xs (k + 1) mn := by
  obtain ⟨h1, h2⟩ := h
  refine ⟨h1.imp id fun ⟨s, a, b⟩ => ⟨s, by omega, b⟩, fun t ht hg => ?_⟩
  by_cases e : t = k
  · rcases hn with hn | hn
    · rw [e, hn] at hg; cases hg
    · rw [e]; exact hn
  · exact h2 t (by omega) hg
theorem ManI.take {xs : List Int} {k : Nat} {mn : List Nat} (h : ManI xs k mn) (hg : apt xs (plcL k 10) = true) (ho : lonN (plcL k 10) mn) : ManI xs (k + 1) (plcL k 10) := by
  refine ⟨.inr ⟨k, by omega, hg, rfl⟩, fun t ht hgt hlt => ?_⟩
  by_cases e : t = k
  · rw [e] at hlt; exact lonN_irr _ hlt
  · exact h.2 t (by omega) hgt (lonN_trans hlt ho)
theorem FewI.all {xs : List Int} (hn : xs.length ≤ 10) {fw : List Nat} {fo : Bool} (h : FewI xs (2 ^ xs.length) fw fo) : few xs = fw := by
  obtain ⟨g1, g2⟩ := few_grd xs
  obtain ⟨m1, m2⟩ := plcL_mask hn g1
  have hg : grdS xs (maskN (few xs)) = true := by rw [grdS_iff hn m1, m2]; exact g2
  rcases h with ⟨h1, h2, h3⟩ | ⟨h1, ⟨s, h2, h3, rfl⟩, h5⟩
  · rw [h3 _ m1] at hg; cases hg
  · refine Classical.byContradiction fun hc => ?_
    have h6 := h5 _ m1 hg
    rw [m2] at h6
    rcases ordN_tri hc with k | k
    · exact h6 k
    · exact few_first (plcL_asc h2) (by rw [← grdS_iff hn h2]; exact h3) k
theorem ManI.all {xs : List Int} (hn : xs.length ≤ 10) {mn : List Nat} (h : ManI xs (2 ^ xs.length) mn) : far xs = mn := by
  obtain ⟨g1, g2⟩ := far_apt xs
  obtain ⟨m1, m2⟩ := plcL_mask hn g1
  obtain ⟨h1, h5⟩ := h
  refine Classical.byContradiction fun hc => ?_
  have h6 := h5 _ m1 (by rw [m2]; exact g2)
  rw [m2] at h6
  rcases lonN_tri hc with k | k
  · exact h6 k
  · rcases h1 with rfl | ⟨s, h2, h3, rfl⟩
    · exact far_first ⟨by simp, by simp⟩ (by simp [apt]) k
    · exact far_first (plcL_asc h2) h3 k
end Go.Proofs.YtcfffhkabhmkmaaDoor.Ps

/- A place more; cheaper prices. -/
namespace Go.Proofs.YtcfffhkabhmkmaaDoor.Ps
open Go Go.Abs Go.Mth
set_option linter.unusedVariables false
set_option linter.unusedSimpArgs false
/-! Prices. -/
def chp (xs ps : List Int) : List Nat := (prcB xs ps).getD 0 []
theorem chp_mem (xs ps : List Int) : chp xs ps ∈ grdL xs := (bestF_all (fstB_mem (grdL_ne xs))).1
theorem chp_le {xs ps : List Int} {z : List Nat} (h : z ∈ grdL xs) : sumZ (fun x => ps.getD x 0) (chp xs ps) ≤ sumZ (fun x => ps.getD x 0) z := by
  have h1 := bestF_le (c := sumZ fun x => ps.getD x 0) h
  have h2 := fstB_cost (c := sumZ fun x => ps.getD x 0) (grdL_ne xs)
  have e : fstB (sumZ fun x => ps.getD x 0) (grdL xs) = chp xs ps := rfl
  rw [← h2, e] at h1
  exact h1
theorem sumZ_cons (c : Nat → Int) (x : Nat) (z : List Nat) : sumZ c (x :: z) = c x + sumZ c z := by simp [sumZ]
end Go.Proofs.YtcfffhkabhmkmaaDoor.Ps

/- The law PostPacked. -/
namespace Go.Proofs.YtcfffhkabhmkmaaDoor.Ps
open Go Go.Abs Go.Mth
set_option linter.unusedVariables false
set_option linter.unusedSimpArgs false
theorem IL_inj {a b : List Nat} (h : IL a = IL b) : a = b := by
  have := congrArg (List.map Int.toNat) h
  rwa [toNat_IL, toNat_IL] at this
attribute [local irreducible] gOK WS WC WR WD Ends FS YS OpV seqK blockK loopK midK retK rdK asgK rangeEnd sat Cell
section
variable {M : HL} {n0 : Nat} {H : Heap} {v w : Value}
theorem sameI_fs (hH : hasH M n0 H) {a b : List Int} (hS : Sl M 1 v (ints a)) (hU : Sl M 1 w (ints b)) (ha : a.length ≤ 100000) (hb : b.length ≤ 100000) :
    FS C 16 [v, w] H (fun e H' => e = .bool (decide (a = b)) ∧ H' = H) := by
  have hv := hS.one_
  have hw := hU.one_
  refine FS.intro (pf := pf16) rfl rfl rfl ?_
  repeat' (first | refine zP ?_ | refine zA ?_ | (refine zM ?_; intro _ _) | refine zX ?_ | (refine zC ?_; intro _ _ _ _) | (refine zS ?_; intro _ _) | (apply Ws <;> intro hg))
  refine WC.condP rfl (fun hne => ?_) (fun hne => ?_)
  · repeat' (first | refine zP ?_ | refine zA ?_ | (refine zM ?_; intro _ _) | refine zX ?_ | (refine zC ?_; intro _ _ _ _) | (refine zS ?_; intro _ _) | (apply Ws <;> intro hg))
    exact Ends.ret1 rfl ⟨by rw [decide_eq_false (fun h => by rw [h] at hne; exact hne rfl)], rfl⟩
  · have hle : a.length = b.length := by omega
    repeat' (first | refine zP ?_ | refine zA ?_ | (refine zM ?_; intro _ _) | refine zX ?_ | (refine zC ?_; intro _ _ _ _) | (refine zS ?_; intro _ _) | (apply Ws <;> intro hg))
    refine WC.loopX [(0, v), (1, w)] (fun k : Nat => [(5, .int .i64 (k : Int))]) [] (fun k H' => H' = H ∧ k ≤ a.length ∧ ∀ j, j < k → a.getD j 0 = b.getD j 0) (fun k => a.length - k) 0 (by repeat' (first | exact .nil | refine .cons rfl ?_)) rfl ⟨rfl, Nat.zero_le _, fun j h => absurd h (Nat.not_lt_zero _)⟩ ?_
    rintro k H' ⟨rfl, hk, hall⟩
    dsimp only [List.cons_append, List.nil_append]
    repeat' (first | refine zP ?_ | refine zA ?_ | (refine zM ?_; intro _ _) | refine zX ?_ | (refine zC ?_; intro _ _ _ _) | (refine zS ?_; intro _ _) | (apply Ws <;> intro hg))
    refine WC.condP rfl (fun hlt => ?_) (fun hlt => ?_)
    · have hk' : k < a.length := by omega
      have hkb : k < b.length := by omega
      repeat' (first | refine zP ?_ | refine zA ?_ | (refine zM ?_; intro _ _) | refine zX ?_ | (refine zC ?_; intro _ _ _ _) | (refine zS ?_; intro _ _))
      by_cases he : a.getD k 0 = b.getD k 0
      · repeat' (first | refine zP ?_ | refine zA ?_ | (refine zM ?_; intro _ _) | refine zX ?_ | (refine zC ?_; intro _ _ _ _) | (refine zS ?_; intro _ _) | refine zO ?_ | (apply Ws <;> intro hg))
        refine Ends.loop (k + 1) (by omega) (by repeat' (first | exact .nil | refine .cons rfl ?_)) rfl ⟨rfl, hk', fun j hj => ?_⟩
        by_cases e : j = k
        · rw [e]; exact he
        · exact hall j (by omega)
      · repeat' (first | refine zP ?_ | refine zA ?_ | (refine zM ?_; intro _ _) | refine zX ?_ | (refine zC ?_; intro _ _ _ _) | (refine zS ?_; intro _ _) | refine zO ?_ | (apply Ws <;> intro hg))
        exact Ends.ret1 rfl ⟨by rw [decide_eq_false (fun h => he (by rw [h]))], rfl⟩
    · have hkl : k = a.length := by omega
      subst hkl
      repeat' (first | refine zP ?_ | refine zA ?_ | (refine zM ?_; intro _ _) | refine zX ?_ | (refine zC ?_; intro _ _ _ _) | (refine zS ?_; intro _ _) | (apply Ws <;> intro hg))
      exact Ends.ret1 rfl ⟨by rw [decide_eq_true (ext_getD (a := 0) hle hall)], rfl⟩
theorem same_fs (hH : hasH M n0 H) {a b : List Nat} (hS : Sl M 1 v (nodes a)) (hU : Sl M 1 w (nodes b)) (ha : a.length ≤ 100000) (hb : b.length ≤ 100000) :
    FS C 16 [v, w] H (fun e H' => e = .bool (decide (a = b)) ∧ H' = H) := by
  refine (sameI_fs hH (a := IL a) (b := IL b) (by rw [← nodes_IL]; exact hS) (by rw [← nodes_IL]; exact hU) (by rw [IL_len]; exact ha) (by rw [IL_len]; exact hb)).mono ?_
  rintro e H' ⟨h1, h2⟩
  refine ⟨?_, h2⟩
  rw [h1]
  congr 1
  rw [decide_eq_decide]
  exact ⟨IL_inj, fun h => by rw [h]⟩
end
end Go.Proofs.YtcfffhkabhmkmaaDoor.Ps

/- The law PostPacked: its walk. -/
namespace Go.Proofs.YtcfffhkabhmkmaaDoor.Ps
open Go Go.Abs Go.Mth
set_option linter.unusedVariables false
set_option linter.unusedSimpArgs false
attribute [local irreducible] gOK WS WC WR WD Ends FS YS OpV seqK blockK loopK midK retK rdK asgK rangeEnd sat Cell
section
variable {M : HL} {n0 : Nat} {H : Heap} {v w : Value}
end
end Go.Proofs.YtcfffhkabhmkmaaDoor.Ps

/- The law PostCheap. -/
namespace Go.Proofs.YtcfffhkabhmkmaaDoor.Ps
open Go Go.Abs Go.Mth
set_option linter.unusedVariables false
set_option linter.unusedSimpArgs false
abbrev cst (ps : List Int) (z : List Nat) : Int := sumZ (fun x => ps.getD x 0) z
def cheN (ps : List Int) (l m : List Nat) : Prop := cst ps l < cst ps m ∨ (cst ps l = cst ps m ∧ lexN l m)
theorem cheN_irr (ps : List Int) (l : List Nat) : ¬ cheN ps l l := by
  rintro (h | ⟨_, h⟩)
  · omega
  · exact lexN_irr l h
theorem cheN_tri (ps : List Int) {l m : List Nat} (h : l ≠ m) : cheN ps l m ∨ cheN ps m l := by
  rcases Int.lt_trichotomy (cst ps l) (cst ps m) with e | e | e
  · exact .inl (.inl e)
  · rcases lexN_tri h with k | k
    · exact .inl (.inr ⟨e, k⟩)
    · exact .inr (.inr ⟨e.symm, k⟩)
  · exact .inr (.inl e)
theorem cheN_trans {ps : List Int} {a b c : List Nat} (h1 : cheN ps a b) (h2 : cheN ps b c) : cheN ps a c := by
  rcases h1 with h1 | ⟨h1, h3⟩ <;> rcases h2 with h2 | ⟨h2, h4⟩
  · exact .inl (by omega)
  · exact .inl (by omega)
  · exact .inl (by omega)
  · exact .inr ⟨by omega, lexN_trans h3 h4⟩
theorem chp_first {xs ps : List Int} {z : List Nat} (hz : z ∈ grdL xs) : ¬ cheN ps z (chp xs ps) := by
  have hs : (grdL xs).Pairwise lexN := (allA_sorted _).sublist List.filter_sublist
  have hle : cst ps (chp xs ps) ≤ cst ps z := chp_le hz
  have h2 := fstB_cost (c := sumZ fun x => ps.getD x 0) (grdL_ne xs)
  have e : fstB (sumZ fun x => ps.getD x 0) (grdL xs) = chp xs ps := rfl
  rw [e] at h2
  rintro (hl | ⟨hl, hx⟩)
  · omega
  · rcases fst_least (c := sumZ fun x => ps.getD x 0) hs hz (by rw [← h2]; exact hl) with k | k
    · rw [e] at k; rw [k] at hx; exact lexN_irr _ hx
    · rw [e] at k; exact lexN_asym hx k
theorem cst_eq {n : Nat} {c : Int} : ∀ {z : List Nat}, (∀ x ∈ z, x < n) → cst (List.replicate n c) z = c * z.length
  | [], _ => by simp [cst, sumZ]
  | x :: z, h => by
    have h1 := h x (by simp)
    have h2 := cst_eq (c := c) (z := z) fun y hy => h y (by simp [hy])
    have h3 : (List.replicate n c).getD x 0 = c := by rw [getD_eq (by simpa using h1)]; simp
    unfold cst at h2 ⊢
    rw [sumZ_cons, h2, h3, List.length_cons, Int.natCast_add, Int.mul_add]
    omega
theorem chp_eq {xs : List Int} {c : Int} (hc : 1 ≤ c) : chp xs (List.replicate xs.length c) = few xs := by
  refine Classical.byContradiction fun hne => ?_
  have k1 := chp_mem xs (List.replicate xs.length c)
  have a1 := grdL_asc _ k1
  obtain ⟨a2, g2⟩ := few_grd xs
  rcases ordN_tri hne with h | h
  · exact few_first a1 (List.mem_filter.1 k1).2 h
  · refine chp_first (ps := List.replicate xs.length c) (few_mem xs) ?_
    have e1 := cst_eq (n := xs.length) (c := c) a1.lt
    have e2 := cst_eq (n := xs.length) (c := c) a2.lt
    rcases h with h | ⟨h, hx⟩
    · refine .inl ?_
      rw [e1, e2]
      exact Int.mul_lt_mul_of_pos_left (by omega) (by omega)
    · exact .inr ⟨by rw [e1, e2, h], hx⟩
def CheI (xs ps : List Int) (k : Nat) (be : List Nat) (lo : Int) (fo : Bool) : Prop := (fo = false ∧ be = [] ∧ lo = 0 ∧ ∀ s, s < k → grdS xs s = false) ∨ (fo = true ∧ (∃ s, s < k ∧ grdS xs s = true ∧ be = plcL s 10) ∧ lo = cst ps be ∧ ∀ s, s < k → grdS xs s = true → ¬ cheN ps (plcL s 10) be)
theorem CheI.keep {xs ps : List Int} {k : Nat} {be : List Nat} {lo : Int} {fo : Bool} (h : CheI xs ps k be lo fo) (hn : grdS xs k = false ∨ (fo = true ∧ ¬ cheN ps (plcL k 10) be)) : CheI xs ps (k + 1) be lo fo := by
  rcases h with ⟨h1, h2, h2', h3⟩ | ⟨h1, ⟨s, h2, h3, h4⟩, h4', h5⟩
  · refine .inl ⟨h1, h2, h2', fun s hs => ?_⟩
    by_cases e : s = k
    · rcases hn with hn | hn
      · rw [e]; exact hn
      · rw [h1] at hn; cases hn.1
    · exact h3 s (by omega)
  · refine .inr ⟨h1, ⟨s, by omega, h3, h4⟩, h4', fun t ht hg => ?_⟩
    by_cases e : t = k
    · rcases hn with hn | hn
      · rw [e, hn] at hg; cases hg
      · rw [e]; exact hn.2
    · exact h5 t (by omega) hg
theorem CheI.take {xs ps : List Int} {k : Nat} {be : List Nat} {lo : Int} {fo : Bool} (h : CheI xs ps k be lo fo) (hg : grdS xs k = true) (ho : fo = false ∨ cheN ps (plcL k 10) be) : CheI xs ps (k + 1) (plcL k 10) (cst ps (plcL k 10)) true := by
  refine .inr ⟨rfl, ⟨k, by omega, hg, rfl⟩, rfl, fun t ht hgt hlt => ?_⟩
  by_cases e : t = k
  · rw [e] at hlt; exact cheN_irr _ _ hlt
  · rcases h with ⟨h1, h2, _, h3⟩ | ⟨h1, h2, _, h5⟩
    · rw [h3 t (by omega)] at hgt; cases hgt
    · rcases ho with ho | ho
      · rw [h1] at ho; cases ho
      · exact h5 t (by omega) hgt (cheN_trans hlt ho)
theorem CheI.all {xs ps : List Int} (hn : xs.length ≤ 10) {be : List Nat} {lo : Int} {fo : Bool} (h : CheI xs ps (2 ^ xs.length) be lo fo) : chp xs ps = be := by
  have k1 := chp_mem xs ps
  have g1 := grdL_asc _ k1
  have g2 := (List.mem_filter.1 k1).2
  obtain ⟨m1, m2⟩ := plcL_mask hn g1
  have hg : grdS xs (maskN (chp xs ps)) = true := by rw [grdS_iff hn m1, m2]; exact g2
  rcases h with ⟨h1, h2, _, h3⟩ | ⟨h1, ⟨s, h2, h3, rfl⟩, _, h5⟩
  · rw [h3 _ m1] at hg; cases hg
  · refine Classical.byContradiction fun hc => ?_
    have h6 := h5 _ m1 hg
    rw [m2] at h6
    rcases cheN_tri ps hc with k | k
    · exact h6 k
    · exact chp_first (List.mem_filter.2 ⟨mem_allA.2 (plcL_asc h2), by rw [← grdS_iff hn h2]; exact h3⟩) k
def prL (a m : Nat) (by_ : List Nat) (n : Nat) : List Int := (List.range n).map fun i => ((a + by_.getD i 0 % m : Nat) : Int)
theorem prL_len (a m : Nat) (by_ : List Nat) (n : Nat) : (prL a m by_ n).length = n := by simp [prL]
theorem prL_get {a m : Nat} {by_ : List Nat} {n i : Nat} (h : i < n) : (prL a m by_ n).getD i 0 = ((a + by_.getD i 0 % m : Nat) : Int) := by
  rw [getD_eq (by rw [prL_len]; exact h)]; simp [prL]
theorem prL_succ (a m : Nat) (by_ : List Nat) (n : Nat) : prL a m by_ (n + 1) = prL a m by_ n ++ [((a + by_.getD n 0 % m : Nat) : Int)] := by simp [prL, List.range_succ]
structure KY where
  k : Nat
  v9 : Value
  v10 : Value
  M9 : HL
  M10 : HL
  n : Nat
structure KZ where
  k : Nat
  v12 : Value
  be : List Nat
  lo : Int
  fo : Bool
  M : HL
  n : Nat
attribute [local irreducible] gOK WS WC WR WD Ends FS YS OpV seqK blockK loopK midK retK rdK asgK rangeEnd sat Cell
section
variable {M : HL} {n0 : Nat} {H : Heap} {v w : Value}
set_option maxHeartbeats 8000000 in
theorem PostCheap_fs (hH : hasH M n0 H) {x : List Nat} (hxl : x.length = 11) (hx : ∀ y ∈ x, y ≤ 255) {py : List Nat} (hpl : py.length = 10) (hp : ∀ y ∈ py, y ≤ 255) {one_ : Nat} (hone : one_ ≤ 255) :
    FS C 6 [.agg (numsK .u8 x).toArray, .agg (numsK .u8 py).toArray, .int .u8 (one_ : Int)] H (fun e H' => e = .bool true) := by
  obtain ⟨x, by_, rfl⟩ : ∃ a l, x = a :: l := by
    cases x with
    | nil => simp at hxl
    | cons a l => exact ⟨a, l, rfl⟩
  have hbl : by_.length = 10 := by simpa using hxl
  have hx0 := hx x (by simp)
  have hb : ∀ y ∈ by_, y ≤ 255 := fun y hy => hx y (by simp [hy])
  have hsl : (numsK .u8 (x :: by_)).length = 11 := by simp [numsK, hbl]
  have hspl : (numsK .u8 py).length = 10 := by simp [numsK, hpl]
  have hfin : ∀ {H' : Heap}, FS C 19 [] H' (fun e H'' => e = .bool true ∧ H'' = H') := fun {H'} => FS.works ⟨rfl, rfl⟩
  refine FS.intro (pf := pf6) rfl rfl rfl ?_
  refine WC.seq ?_
  refine WC.region ?_
  refine WR.boxA (cs := numsK .u8 (x :: by_)) (by first | exact gN | exact gS rfl) rfl hH rfl (numsK_one _) fun H1 hH1 => ?_
  refine WR.boxA (cs := numsK .u8 py) (by first | exact gN | exact gS rfl) rfl hH1 rfl (numsK_one _) fun H2 hH2 => ?_
  clear hH hH1
  repeat' (first | refine zP ?_ | refine zA ?_ | (refine zM ?_; intro _ _) | refine zX ?_ | (refine zC ?_; intro _ _ _ _) | (refine zS ?_; intro _ _) | (apply Ws <;> intro hg))
  refine WR.call (by first | exact gN | exact gS rfl) rfl rfl (made_fs (most := 9) hH2 hx0 hb hbl (by decide) (by decide)) ?_
  rintro _ H3 ⟨vs, vh, MS, MH, n3, rfl, hOs, hOh, hn3, hH3⟩
  have hmod := Nat.mod_lt x (show 0 < 9 by decide)
  obtain ⟨n, hn⟩ : ∃ n, 1 + x % 9 = n := ⟨_, rfl⟩
  rw [hn] at hOs hOh
  have hok := mkS_ok by_ (n := n) (by omega) (by omega)
  have hlen := mkS_len by_ n
  obtain ⟨X, hX⟩ : ∃ X, MS ++ (MH ++ ((n0 + 1, .row 22 0 0 (numsK .u8 py)) :: (n0, Ch.row 24 0 0 (numsK .u8 (x :: by_))) :: M)) = X := ⟨_, rfl⟩
  have hSs : Sl X 1 vs (ints (mkS by_ n)) := (hOs.sl []).mono fun q hq => by rw [List.append_nil] at hq; rw [← hX]; simp [hq]
  have hSh : Sl X 1 vh (numsK .u64 (hsL (mkS by_ n))) := (hOh.sl []).mono fun q hq => by rw [List.append_nil] at hq; rw [← hX]; simp [hq]
  have hmP : (n0 + 1, Ch.row 22 0 0 (numsK .u8 py)) ∈ X := by rw [← hX]; simp
  rw [hX] at hH3
  clear hX hH2 hOs hOh hsl
  generalize mkS by_ n = xs at hok hlen hSs hSh
  have hvs := hSs.one_
  have hvh := hSh.one_
  have h10 : xs.length ≤ 10 := hok.most
  have hpw : 2 ^ n < 1024 := by show 2 ^ n < 2 ^ 10; exact Nat.pow_lt_pow_right (by omega) (by omega)
  subst hlen
  obtain ⟨c1, hc1⟩ : ∃ c1 : Nat, 1 + one_ % 20 = c1 := ⟨_, rfl⟩
  have hcm := Nat.mod_lt one_ (show 0 < 20 by decide)
  repeat' (first | refine zP ?_ | refine zA ?_ | (refine zM ?_; intro _ _) | refine zX ?_ | (refine zC ?_; intro _ _ _ _) | (refine zS ?_; intro _ _) | (apply Ws <;> intro hg))
  refine WC.loopX [(7, vs), (8, vh), (2, _), (4, _), (31, vs), (32, _)] (fun z : KY => [(33, .int .i64 (z.k : Int)), (9, z.v9), (10, z.v10)]) []
    (fun z H' => z.k ≤ xs.length ∧ Own 3 1 z.v9 (ints (prL 1 20 py z.k)) z.M9 ∧ Own 3 1 z.v10 (ints (List.replicate z.k (c1 : Int))) z.M10 ∧ n3 ≤ z.n ∧ hasH (z.M9 ++ (z.M10 ++ X)) z.n H') (fun z => xs.length - z.k) ⟨0, .slice none 0 0, .slice none 0 0, [], [], n3⟩ (by repeat' (first | exact .nil | refine .cons rfl ?_)) rfl ⟨Nat.zero_le _, .nil, .nil, Nat.le_refl _, hH3⟩ ?_
  clear hH3
  rintro ⟨k, v9, v10, M9, M10, n4⟩ H4 ⟨hk, hO9, hO10, hn4, hH⟩
  simp only at hk hO9 hO10 hn4 hH
  have hmP4 : (n0 + 1, Ch.row 22 0 0 (numsK .u8 py)) ∈ M9 ++ (M10 ++ X) := List.mem_append_right _ (List.mem_append_right _ hmP)
  have hps := prL_succ 1 20 py k
  dsimp only [List.cons_append, List.nil_append]
  repeat' (first | refine zP ?_ | refine zA ?_ | (refine zM ?_; intro _ _) | refine zX ?_ | (refine zC ?_; intro _ _ _ _) | (refine zS ?_; intro _ _) | (apply Ws <;> intro hg))
  refine WC.condP rfl (fun hlt => ?_) (fun hlt => ?_)
  · have hk' : k < xs.length := by omega
    have hgk : (numsK .u8 py)[k]? = some (.int .u8 ((py.getD k 0 : Nat) : Int)) := by
      unfold numsK
      rw [List.getElem?_map, List.getElem?_eq_getElem (by omega), getD_eq (by omega)]; rfl
    have hpy : py.getD k 0 ≤ 255 := hp _ (getD_mem (by omega))
    repeat' (first | refine zP ?_ | refine zA ?_ | (refine zM ?_; intro _ _) | refine zX ?_ | (refine zC ?_; intro _ _ _ _) | (refine zS ?_; intro _ _) | (apply Ws <;> intro hg))
    refine WR.op (by first | exact gN | exact gS rfl) rfl (OpV.conv u8k i64k rfl (c := ((py.getD k 0 : Nat) : Int)) (IntWalk.i64_in _ (by omega))) ?_
    repeat' (first | refine zP ?_ | refine zA ?_ | (refine zM ?_; intro _ _) | refine zX ?_ | (refine zC ?_; intro _ _ _ _) | (refine zS ?_; intro _ _) | (apply Ws <;> intro hg))
    rw [show (1 : Int) + ((py.getD k 0 : Nat) : Int) % 20 = ((1 + py.getD k 0 % 20 : Nat) : Int) by simp]
    refine WR.append1F [] M9 (M10 ++ X) rfl rfl rfl rfl hO9 hH (new := [.int .i64 ((1 + py.getD k 0 % 20 : Nat) : Int)]) rfl rfl rfl (Nat.le_refl _) (by decide) (by rw [List.length_map, prL_len]; simp; omega) fun v' Mx' n' H' q1 q2 q3 => ?_
    repeat' (first | refine zP ?_ | refine zA ?_ | (refine zM ?_; intro _ _) | refine zX ?_ | (refine zC ?_; intro _ _ _ _) | (refine zS ?_; intro _ _) | (apply Ws <;> intro hg))
    refine WR.op (by first | exact gN | exact gS rfl) rfl (OpV.conv u8k i64k rfl (c := (one_ : Int)) (IntWalk.i64_in _ (by omega))) ?_
    repeat' (first | refine zP ?_ | refine zA ?_ | (refine zM ?_; intro _ _) | refine zX ?_ | (refine zC ?_; intro _ _ _ _) | (refine zS ?_; intro _ _) | (apply Ws <;> intro hg))
    rw [show (1 : Int) + (one_ : Int) % 20 = (c1 : Int) by omega]
    refine WR.append1F Mx' M10 X rfl rfl rfl rfl hO10 q2 (new := [.int .i64 (c1 : Int)]) rfl rfl rfl (Nat.le_refl _) (by decide) (by simp; omega) fun v2' My' n2' H2' r1 r2 r3 => ?_
    repeat' (first | refine zP ?_ | refine zA ?_ | (refine zM ?_; intro _ _) | refine zX ?_ | (refine zC ?_; intro _ _ _ _) | (refine zS ?_; intro _ _) | (apply Ws <;> intro hg))
    refine Ends.loop ⟨k + 1, v', v2', Mx', My', n2'⟩ (by simp only; omega) (by repeat' (first | exact .nil | refine .cons rfl ?_)) rfl ⟨hk', ?_, ?_, by simp only; omega, r2⟩
    · simp only
      rw [hps, ints, List.map_append]; exact q1
    · simp only
      rw [List.replicate_succ', ints, List.map_append]; exact r1
  · have hkn : k = xs.length := by omega
    subst hkn
    clear hps
    have hPl := prL_len 1 20 py xs.length
    have hPb : ∀ i, i < (prL 1 20 py xs.length).length → 1 ≤ (prL 1 20 py xs.length).getD i 0 ∧ (prL 1 20 py xs.length).getD i 0 ≤ 20 := fun i hi => by
      rw [hPl] at hi
      rw [prL_get hi]
      have := Nat.mod_lt (py.getD i 0) (show 0 < 20 by decide)
      omega
    generalize prL 1 20 py xs.length = ps at hO9 hPl hPb
    have hceq := chp_eq (xs := xs) (c := (c1 : Int)) (by omega)
    have hEl : (List.replicate xs.length (c1 : Int)).length = xs.length := by simp
    have hEb : ∀ i, i < (List.replicate xs.length (c1 : Int)).length → 1 ≤ (List.replicate xs.length (c1 : Int)).getD i 0 ∧ (List.replicate xs.length (c1 : Int)).getD i 0 ≤ 20 := fun i hi => by
      rw [hEl] at hi
      rw [getD_eq (by simpa using hi), List.getElem_replicate]
      omega
    generalize List.replicate xs.length (c1 : Int) = qs at hO10 hceq hEl hEb
    have hSp : Sl (M9 ++ (M10 ++ X)) 1 v9 (ints ps) := hO9.sl _
    have hSq : Sl (M9 ++ (M10 ++ X)) 1 v10 (ints qs) := (hO10.sl X).mono fun q hq => List.mem_append_right _ hq
    have hSsY : Sl (M9 ++ (M10 ++ X)) 1 vs (ints xs) := hSs.mono fun q hq => by simp [hq]
    have hShY : Sl (M9 ++ (M10 ++ X)) 1 vh (numsK .u64 (hsL xs)) := hSh.mono fun q hq => by simp [hq]
    clear hO9 hO10 hSs hSh hmP hmP4
    generalize M9 ++ (M10 ++ X) = Y at hH hSp hSq hSsY hShY
    have hbp : ∀ x, x < ps.length → -20 ≤ ps.getD x 0 ∧ ps.getD x 0 ≤ 20 := fun x hx => by have := hPb x hx; omega
    repeat' (first | refine zP ?_ | refine zA ?_ | (refine zM ?_; intro _ _) | refine zX ?_ | (refine zC ?_; intro _ _ _ _) | (refine zS ?_; intro _ _) | (apply Ws <;> intro hg))
    refine WR.bldS (by first | exact gN | exact gS rfl) rfl hH (vs := []) rfl (cs := []) (by rfl) rfl fun H5 hH5 => ?_
    repeat' (first | refine zP ?_ | refine zA ?_ | (refine zM ?_; intro _ _) | refine zX ?_ | (refine zC ?_; intro _ _ _ _) | (refine zS ?_; intro _ _) | (apply Ws <;> intro hg))
    refine WR.op (by first | exact gN | exact gS rfl) rfl (OpV.shl1 rfl rfl (by show xs.length ≤ 64; omega) (lt64 hpw)) ?_
    repeat' (first | refine zP ?_ | refine zA ?_ | (refine zM ?_; intro _ _) | refine zX ?_ | (refine zC ?_; intro _ _ _ _) | (refine zS ?_; intro _ _) | (apply Ws <;> intro hg))
    have hS12 : Sl ((n4, Ch.row 3 0 0 []) :: Y) 1 (.slice (some ⟨n4, 0, some 0⟩) 0 (2 * 0 + 1)) (nodes []) := .row (.head _) (.row _ _ _ _) (Nat.le_refl _) (by simp) (by simp) (by simp) (.inr ⟨0, rfl, Nat.le_refl _⟩)
    refine WC.loopX [(7, vs), (8, vh), (9, v9), (10, v10), (56, .int .u64 ((2 ^ xs.length : Nat) : Int))] (fun z : KZ => [(57, .int .u64 (z.k : Int)), (12, z.v12), (13, .bool z.fo), (14, .int .i64 z.lo)]) []
      (fun z H' => z.k ≤ 2 ^ xs.length ∧ CheI xs ps z.k z.be z.lo z.fo ∧ Sl z.M 1 z.v12 (nodes z.be) ∧ z.be.length ≤ 10 ∧ (∀ q ∈ Y, q ∈ z.M) ∧ hasH z.M z.n H') (fun z => 2 ^ xs.length - z.k)
      ⟨0, _, [], 0, false, (n4, Ch.row 3 0 0 []) :: Y, n4 + 1⟩ (by repeat' (first | exact .nil | refine .cons rfl ?_)) rfl ⟨Nat.zero_le _, .inl ⟨rfl, rfl, rfl, fun s hs => absurd hs (Nat.not_lt_zero _)⟩, hS12, Nat.zero_le _, fun q hq => .tail _ hq, hH5⟩ ?_
    clear hH5 hH hS12
    rintro ⟨k, v12, be, lo, fo, Z, n5⟩ H6 ⟨hk, hC, hS12, hbl10, hYZ, hH⟩
    simp only at hk hC hS12 hbl10 hYZ hH
    dsimp only [List.cons_append, List.nil_append]
    repeat' (first | refine zP ?_ | refine zA ?_ | (refine zM ?_; intro _ _) | refine zX ?_ | (refine zC ?_; intro _ _ _ _) | (refine zS ?_; intro _ _) | (apply Ws <;> intro hg))
    refine WC.condP rfl (fun hlt2 => ?_) (fun hlt2 => ?_)
    · have hk' : k < 2 ^ xs.length := by omega
      have hk10 : k < 1024 := by omega
      have hgi := grdS_iff h10 hk'
      have hasc := plcL_asc hk'
      have hal := hasc.len
      have hadd : k + 1 < capK .u64 := by have : capK .u64 = 18446744073709551616 := by decide
                                          omega
      repeat' (first | refine zP ?_ | refine zA ?_ | (refine zM ?_; intro _ _) | refine zX ?_ | (refine zC ?_; intro _ _ _ _) | (refine zS ?_; intro _ _) | (apply Ws <;> intro hg))
      refine WR.call (by first | exact gN | exact gS rfl) rfl rfl (guardsS_fs hH h10 (hShY.mono hYZ) hk10) ?_
      rintro _ H7 ⟨rfl, hH7⟩
      clear hH
      by_cases hgk : grdS xs k = true
      · rw [hgk]
        repeat' (first | refine zP ?_ | refine zA ?_ | (refine zM ?_; intro _ _) | refine zX ?_ | (refine zC ?_; intro _ _ _ _) | (refine zS ?_; intro _ _) | (apply Ws <;> intro hg))
        refine WR.call (by first | exact gN | exact gS rfl) rfl rfl (members_fs hH7 hk10) ?_
        rintro v16 H8 ⟨Mx, n8, hO8, hn8, hH8⟩
        have hS16 := hO8.sl Z
        have hSpZ : Sl (Mx ++ Z) 1 v9 (ints ps) := hSp.mono fun q hq => List.mem_append_right _ (hYZ q hq)
        replace hS12 := hS12.mono fun q hq => List.mem_append_right Mx hq
        replace hYZ : ∀ q ∈ Y, q ∈ Mx ++ Z := fun q hq => List.mem_append_right _ (hYZ q hq)
        clear hH7 hO8
        generalize Mx ++ Z = W at hH8 hS16 hSpZ hS12 hYZ
        have hv16 := hS16.one_
        have hv12 := hS12.one_
        repeat' (first | refine zP ?_ | refine zA ?_ | (refine zM ?_; intro _ _) | refine zX ?_ | (refine zC ?_; intro _ _ _ _) | (refine zS ?_; intro _ _) | (apply Ws <;> intro hg))
        refine WC.loopX [(7, vs), (8, vh), (9, v9), (10, v10), (56, .int .u64 ((2 ^ xs.length : Nat) : Int)), (57, _), (12, v12), (13, .bool fo), (14, .int .i64 lo), (16, v16), (66, v16), (67, _)] (fun j : Nat => [(68, .int .i64 (j : Int)), (17, .int .i64 (cst ps ((plcL k 10).take j)))]) [] (fun j H' => j ≤ (plcL k 10).length ∧ H' = H8) (fun j => (plcL k 10).length - j) 0 (by repeat' (first | exact .nil | refine .cons rfl ?_)) rfl ⟨Nat.zero_le _, rfl⟩ ?_
        rintro j H9 ⟨hj, hHe⟩
        have hbd := sumZ_bd (c := fun x => ps.getD x 0) (z := (plcL k 10).take j) fun x hx => hbp x (by have := hasc.lt x (List.mem_of_mem_take hx); omega)
        have htl : ((plcL k 10).take j).length ≤ 10 := by simp; omega
        have hH9 : hasH W n8 H9 := by rw [hHe]; exact hH8
        dsimp only [List.cons_append, List.nil_append]
        repeat' (first | refine zP ?_ | refine zA ?_ | (refine zM ?_; intro _ _) | refine zX ?_ | (refine zC ?_; intro _ _ _ _) | (refine zS ?_; intro _ _) | (apply Ws <;> intro hg))
        refine WC.condP rfl (fun hlt3 => ?_) (fun hlt3 => ?_)
        · have hj' : j < (plcL k 10).length := by omega
          have hxj := hasc.lt _ (getD_mem (a := 0) hj')
          have htk : (plcL k 10).take (j + 1) = (plcL k 10).take j ++ [(plcL k 10).getD j 0] := by rw [List.take_succ_eq_append_getElem hj', ← getD_eq (a := 0)]
          have hss := sumZ_snoc (fun x => ps.getD x 0) ((plcL k 10).take j) ((plcL k 10).getD j 0)
          rw [← htk] at hss
          have hxp : (plcL k 10).getD j 0 < ps.length := by omega
          have hcx := hbp _ hxp
          show WC C _ _ _ _ _ _ _ _
          have hcst : cst ps ((plcL k 10).take j) = sumZ (fun x => ps.getD x 0) ((plcL k 10).take j) := rfl
          rw [hcst]
          generalize sumZ (fun x => ps.getD x 0) ((plcL k 10).take j) = sj at hbd hss ⊢
          repeat' (first | refine zP ?_ | refine zA ?_ | (refine zM ?_; intro _ _) | refine zX ?_ | (refine zC ?_; intro _ _ _ _) | (refine zS ?_; intro _ _) | (apply Ws <;> intro hg))
          exact Ends.loop (j + 1) (by omega) (by rw [show cst ps ((plcL k 10).take (j + 1)) = sumZ (fun x => ps.getD x 0) ((plcL k 10).take (j + 1)) from rfl, hss]; exact (by repeat' (first | exact .nil | refine .cons rfl ?_))) rfl ⟨hj', hHe⟩
        · have hjl : j = (plcL k 10).length := by omega
          subst hjl
          rw [List.take_length]
          have htk2 := fun ho => hC.take hgk ho
          obtain ⟨c, hc⟩ : ∃ c, cst ps (plcL k 10) = c := ⟨_, rfl⟩
          rw [hc] at htk2 ⊢
          by_cases hfo : fo = true
          · have hlo : lo = cst ps be := by
              rcases hC with ⟨h1, _⟩ | ⟨_, _, h1, _⟩
              · rw [h1] at hfo; cases hfo
              · exact h1
            by_cases hcl : c < lo
            · have hC2 := htk2 (.inr (.inl (by rw [hc]; omega)))
              rw [hfo]
              repeat' (first | refine zP ?_ | refine zA ?_ | (refine zM ?_; intro _ _) | refine zX ?_ | (refine zC ?_; intro _ _ _ _) | (refine zS ?_; intro _ _) | refine zO ?_ | (apply Ws <;> intro hg))
              refine WR.op (by first | exact gN | exact gS rfl) rfl (OpV.addN (b := 1) rfl rfl hadd) ?_
              repeat' (first | refine zP ?_ | refine zA ?_ | (refine zM ?_; intro _ _) | refine zX ?_ | (refine zC ?_; intro _ _ _ _) | (refine zS ?_; intro _ _) | refine zO ?_ | (apply Ws <;> intro hg))
              exact Ends.loop ⟨k + 1, v16, plcL k 10, c, true, W, n8⟩ (by simp only; omega) (by repeat' (first | exact .nil | refine .cons rfl ?_)) rfl ⟨hk', hC2, hS16, by simp only; omega, hYZ, hH9⟩
            · by_cases hce : c = lo
              · have hCm := lexN_C (l := plcL k 10) (m := be)
                rw [hfo]
                repeat' (first | refine zP ?_ | refine zA ?_ | (refine zM ?_; intro _ _) | refine zX ?_ | (refine zC ?_; intro _ _ _ _) | (refine zS ?_; intro _ _) | refine zO ?_ | (apply Ws <;> intro hg))
                refine WR.call (by first | exact gN | exact gS rfl) rfl rfl (CompareN_fs hH9 hS16 hS12 (by omega) (by omega)) ?_
                rintro _ H10 ⟨rfl, hHe2⟩
                replace hH9 : hasH W n8 H10 := by rw [hHe2]; exact hH9
                generalize lexC (IL (plcL k 10)) (IL be) = r at hCm ⊢
                by_cases h3 : r < 0
                · have hC2 := htk2 (.inr (.inr ⟨by rw [hc]; omega, hCm.1 h3⟩))
                  repeat' (first | refine zP ?_ | refine zA ?_ | (refine zM ?_; intro _ _) | refine zX ?_ | (refine zC ?_; intro _ _ _ _) | (refine zS ?_; intro _ _) | refine zO ?_ | (apply Ws <;> intro hg))
                  refine WR.op (by first | exact gN | exact gS rfl) rfl (OpV.addN (b := 1) rfl rfl hadd) ?_
                  repeat' (first | refine zP ?_ | refine zA ?_ | (refine zM ?_; intro _ _) | refine zX ?_ | (refine zC ?_; intro _ _ _ _) | (refine zS ?_; intro _ _) | refine zO ?_ | (apply Ws <;> intro hg))
                  exact Ends.loop ⟨k + 1, v16, plcL k 10, c, true, W, n8⟩ (by simp only; omega) (by repeat' (first | exact .nil | refine .cons rfl ?_)) rfl ⟨hk', hC2, hS16, by simp only; omega, hYZ, hH9⟩
                · have hC2 := hC.keep (.inr ⟨hfo, fun h => by
                    rcases h with h | h
                    · rw [hc] at h; omega
                    · exact h3 (hCm.2 h.2)⟩)
                  rw [hfo] at hC2
                  repeat' (first | refine zP ?_ | refine zA ?_ | (refine zM ?_; intro _ _) | refine zX ?_ | (refine zC ?_; intro _ _ _ _) | (refine zS ?_; intro _ _) | refine zO ?_ | (apply Ws <;> intro hg))
                  refine WR.op (by first | exact gN | exact gS rfl) rfl (OpV.addN (b := 1) rfl rfl hadd) ?_
                  repeat' (first | refine zP ?_ | refine zA ?_ | (refine zM ?_; intro _ _) | refine zX ?_ | (refine zC ?_; intro _ _ _ _) | (refine zS ?_; intro _ _) | refine zO ?_ | (apply Ws <;> intro hg))
                  exact Ends.loop ⟨k + 1, v12, be, lo, true, W, n8⟩ (by simp only; omega) (by repeat' (first | exact .nil | refine .cons rfl ?_)) rfl ⟨hk', hC2, hS12, hbl10, hYZ, hH9⟩
              · have hC2 := hC.keep (.inr ⟨hfo, fun h => by
                  rcases h with h | h
                  · rw [hc] at h; omega
                  · rw [hc] at h; omega⟩)
                rw [hfo] at hC2 ⊢
                repeat' (first | refine zP ?_ | refine zA ?_ | (refine zM ?_; intro _ _) | refine zX ?_ | (refine zC ?_; intro _ _ _ _) | (refine zS ?_; intro _ _) | refine zO ?_ | (apply Ws <;> intro hg))
                refine WR.op (by first | exact gN | exact gS rfl) rfl (OpV.addN (b := 1) rfl rfl hadd) ?_
                repeat' (first | refine zP ?_ | refine zA ?_ | (refine zM ?_; intro _ _) | refine zX ?_ | (refine zC ?_; intro _ _ _ _) | (refine zS ?_; intro _ _) | refine zO ?_ | (apply Ws <;> intro hg))
                exact Ends.loop ⟨k + 1, v12, be, lo, true, W, n8⟩ (by simp only; omega) (by repeat' (first | exact .nil | refine .cons rfl ?_)) rfl ⟨hk', hC2, hS12, hbl10, hYZ, hH9⟩
          · have hff : fo = false := by simpa using hfo
            have hC2 := htk2 (.inl hff)
            rw [hff]
            repeat' (first | refine zP ?_ | refine zA ?_ | (refine zM ?_; intro _ _) | refine zX ?_ | (refine zC ?_; intro _ _ _ _) | (refine zS ?_; intro _ _) | refine zO ?_ | (apply Ws <;> intro hg))
            refine WR.op (by first | exact gN | exact gS rfl) rfl (OpV.addN (b := 1) rfl rfl hadd) ?_
            repeat' (first | refine zP ?_ | refine zA ?_ | (refine zM ?_; intro _ _) | refine zX ?_ | (refine zC ?_; intro _ _ _ _) | (refine zS ?_; intro _ _) | refine zO ?_ | (apply Ws <;> intro hg))
            exact Ends.loop ⟨k + 1, v16, plcL k 10, c, true, W, n8⟩ (by simp only; omega) (by repeat' (first | exact .nil | refine .cons rfl ?_)) rfl ⟨hk', hC2, hS16, by simp only; omega, hYZ, hH9⟩
      · have hgf : grdS xs k = false := by simpa using hgk
        have hC2 := hC.keep (.inl hgf)
        rw [hgf]
        repeat' (first | refine zP ?_ | refine zA ?_ | (refine zM ?_; intro _ _) | refine zX ?_ | (refine zC ?_; intro _ _ _ _) | (refine zS ?_; intro _ _) | refine zO ?_ | (apply Ws <;> intro hg))
        refine WR.op (by first | exact gN | exact gS rfl) rfl (OpV.addN (b := 1) rfl rfl hadd) ?_
        repeat' (first | refine zP ?_ | refine zA ?_ | (refine zM ?_; intro _ _) | refine zX ?_ | (refine zC ?_; intro _ _ _ _) | (refine zS ?_; intro _ _) | refine zO ?_ | (apply Ws <;> intro hg))
        exact Ends.loop ⟨k + 1, v12, be, lo, fo, Z, n5 + 1⟩ (by simp only; omega) (by repeat' (first | exact .nil | refine .cons rfl ?_)) rfl ⟨hk', hC2, hS12, hbl10, hYZ, hH7⟩
    · have hke : k = 2 ^ xs.length := by omega
      subst hke
      have hbe := hC.all h10
      have hOP : errR xs ps = 0 := errR_zero.2 ⟨hok, hPl, fun i hi => hPb i hi⟩
      have hOQ : errR xs qs = 0 := errR_zero.2 ⟨hok, hEl, fun i hi => hEb i hi⟩
      have hE0 := errS_zero.2 hok
      have hfl := (few_grd xs).1.len
      have hSsZ := hSsY.mono hYZ
      have hSpZ := hSp.mono hYZ
      have hSqZ := hSq.mono hYZ
      clear hC
      repeat' (first | refine zP ?_ | refine zA ?_ | (refine zM ?_; intro _ _) | refine zX ?_ | (refine zC ?_; intro _ _ _ _) | (refine zS ?_; intro _ _) | (apply Ws <;> intro hg))
      refine WR.call (by first | exact gN | exact gS rfl) rfl rfl (Cheapest_fs hH hSsZ (by omega) hSpZ (by omega)) ?_
      rintro _ H7 ⟨u7, M7, n7, rfl, hU7, hn7, hH7⟩
      rw [hOP] at hU7 ⊢
      rw [if_pos rfl] at hU7
      replace hU7 : Sl (M7 ++ Z) 1 u7 (nodes be) := by rw [← hbe]; exact hU7
      replace hS12 := hS12.mono fun q hq => List.mem_append_right M7 hq
      replace hSsZ := hSsZ.mono fun q hq => List.mem_append_right M7 hq
      replace hSqZ := hSqZ.mono fun q hq => List.mem_append_right M7 hq
      clear hH hYZ hSpZ
      generalize M7 ++ Z = Y7 at hH7 hU7 hS12 hSsZ hSqZ
      repeat' (first | refine zP ?_ | refine zA ?_ | (refine zM ?_; intro _ _) | refine zX ?_ | (refine zC ?_; intro _ _ _ _) | (refine zS ?_; intro _ _) | (apply Ws <;> intro hg))
      refine WR.call (by first | exact gN | exact gS rfl) rfl rfl (Cheapest_fs hH7 hSsZ (by omega) hSqZ (by omega)) ?_
      rintro _ H8 ⟨u8, M8, n8, rfl, hU8, hn8, hH8⟩
      rw [hOQ] at hU8 ⊢
      rw [if_pos rfl] at hU8
      replace hU8 : Sl (M8 ++ Y7) 1 u8 (nodes (few xs)) := by rw [← hceq]; exact hU8
      replace hU7 := hU7.mono fun q hq => List.mem_append_right M8 hq
      replace hS12 := hS12.mono fun q hq => List.mem_append_right M8 hq
      replace hSsZ := hSsZ.mono fun q hq => List.mem_append_right M8 hq
      clear hH7 hSqZ
      generalize M8 ++ Y7 = Y8 at hH8 hU8 hU7 hS12 hSsZ
      repeat' (first | refine zP ?_ | refine zA ?_ | (refine zM ?_; intro _ _) | refine zX ?_ | (refine zC ?_; intro _ _ _ _) | (refine zS ?_; intro _ _) | (apply Ws <;> intro hg))
      refine WR.call (by first | exact gN | exact gS rfl) rfl rfl (Fewest_fs hH8 hSsZ (by omega)) ?_
      rintro _ H9 ⟨u9, M9, n9, rfl, hU9, hn9, hH9⟩
      rw [hE0] at hU9 ⊢
      rw [if_pos rfl] at hU9
      replace hU9 : Sl (M9 ++ Y8) 1 u9 (nodes (few xs)) := hU9
      replace hU8 := hU8.mono fun q hq => List.mem_append_right M9 hq
      replace hU7 := hU7.mono fun q hq => List.mem_append_right M9 hq
      replace hS12 := hS12.mono fun q hq => List.mem_append_right M9 hq
      clear hH8 hSsZ
      generalize M9 ++ Y8 = Y9 at hH9 hU9 hU8 hU7 hS12
      repeat' (first | refine zP ?_ | refine zA ?_ | (refine zM ?_; intro _ _) | refine zX ?_ | (refine zC ?_; intro _ _ _ _) | (refine zS ?_; intro _ _) | refine zO ?_ | (apply Ws <;> intro hg))
      refine WR.call (by first | exact gN | exact gS rfl) rfl rfl (same_fs hH9 hU7 hS12 (by omega) (by omega)) ?_
      rintro _ _ ⟨rfl, rfl⟩
      rw [decide_eq_true rfl]
      repeat' (first | refine zP ?_ | refine zA ?_ | (refine zM ?_; intro _ _) | refine zX ?_ | (refine zC ?_; intro _ _ _ _) | (refine zS ?_; intro _ _) | refine zO ?_ | (apply Ws <;> intro hg))
      refine WR.call (by first | exact gN | exact gS rfl) rfl rfl (same_fs hH9 hU8 hU9 (by omega) (by omega)) ?_
      rintro _ _ ⟨rfl, rfl⟩
      rw [decide_eq_true rfl]
      repeat' (first | refine zP ?_ | refine zA ?_ | (refine zM ?_; intro _ _) | refine zX ?_ | (refine zC ?_; intro _ _ _ _) | (refine zS ?_; intro _ _) | refine zO ?_ | (apply Ws <;> intro hg))
      refine WR.call (by first | exact gN | exact gS rfl) rfl rfl hfin ?_
      rintro _ _ ⟨rfl, rfl⟩
      repeat' (first | refine zP ?_ | refine zA ?_ | (refine zM ?_; intro _ _) | refine zX ?_ | (refine zC ?_; intro _ _ _ _) | (refine zS ?_; intro _ _) | refine zO ?_ | (apply Ws <;> intro hg))
      exact Ends.ret1 rfl rfl
end
end Go.Proofs.YtcfffhkabhmkmaaDoor.Ps
