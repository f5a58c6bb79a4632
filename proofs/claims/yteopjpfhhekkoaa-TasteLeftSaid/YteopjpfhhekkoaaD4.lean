/- TasteLeft: the walk. -/
import Derived.Test.YteopjpfhhekkoaaJ4
namespace Go.Proofs.Yteopjpfhhekkoaa.Tt
open Go Go.Abs Go.Mth
set_option linter.unusedVariables false
set_option linter.unusedSimpArgs false
theorem pickS_snoc (S : List Sal) (K : List Nat) (k : Nat) : pickS S (K ++ [k]) = pickS S K ++ [S.getD k noSal] := by simp [pickS]
attribute [local irreducible] gOK WS WC WR WD Ends FS YS OpV seqK blockK loopK midK retK rdK asgK rangeEnd sat Cell
section
variable {M : HL} {n0 : Nat} {H : Heap}
set_option maxHeartbeats 8000000 in
theorem TasteLeft_fs (hH : hasH M n0 H) {xs : List Nat} (hl : xs.length = 39) (hb : ∀ x ∈ xs, x ≤ 255) :
    FS C 10 [.agg (numsK .u8 xs).toArray] H (fun e H' => e = .bool true) := by
  have ho1 := numsK_one .u8 xs
  have hxl : (numsK .u8 xs).length = 39 := by simpa using hl
  refine FS.intro (pf := pf10) rfl rfl rfl ?_
  repeat' (first | refine zP ?_ | refine zA ?_ | (refine zM ?_; intro _ _) | refine zX ?_ | (refine zC ?_; intro _ _ _ _) | (refine zS ?_; intro _ _) | (apply Ws <;> intro hg))
  rename_i H1 hH1
  clear hH
  refine WR.call (by first | exact gN | exact gS rfl) rfl rfl (made_fs hH1 hl hb (most := 6) (by omega)) ?_
  rintro _ H4 ⟨S, v, n4, M4, hSE, hSl, hn4, hH4, hS, rfl⟩
  obtain ⟨g, hg⟩ : ∃ g, 1 + xs.getD 0 0 % 3 = g := ⟨_, rfl⟩
  rw [hg] at hSE
  have hmod := Nat.mod_lt (xs.getD 1 0) (show 0 < 6 + 1 by omega)
  have hok : OKS g S := .of (by omega) (by omega) (by omega) hSE
  have hlen := hok.len
  have h0 := err0 hok
  have hlenS := hok.lens
  have hP := hok.sq
  have hml := matS_len S
  rw [hg]
  generalize M4 ++ (n0, Ch.row 61 0 0 (numsK .u8 xs)) :: M = T at hH4 hS
  clear hH1 hSE hSl hmod hg ho1 hxl
  have hv := hS.one_
  obtain ⟨ws0, hV0, hwl0, hrow0⟩ := hS.at
  have h2n : 1 ≤ 2 ^ S.length ∧ 2 ^ S.length ≤ 64 := ⟨Nat.two_pow_pos _, Nat.le_trans (Nat.pow_le_pow_right (by omega) hlen) (by decide)⟩
  repeat' (first | refine zP ?_ | refine zA ?_ | (refine zM ?_; intro _ _) | refine zX ?_ | (refine zC ?_; intro _ _ _ _) | (refine zS ?_; intro _ _) | (apply Ws <;> intro hg))
  refine WR.op (by first | exact gN | exact gS rfl) rfl (OpV.lenK pairV_len (by decide) rfl hV0) ?_
  rw [hwl0]
  refine WR.op (by first | exact gN | exact gS rfl) rfl (OpV.shl1 rfl rfl (by show S.length ≤ 64; omega) (by show 2 ^ S.length < 2 ^ 63; omega)) ?_
  repeat' (first | refine zP ?_ | refine zA ?_ | (refine zM ?_; intro _ _) | refine zX ?_ | (refine zC ?_; intro _ _ _ _) | (refine zS ?_; intro _ _) | (apply Ws <;> intro hg))
  refine WC.loopX [(3, _), (4, _), (28, _)] (fun s : LV => [(5, s.v), (6, .bool s.f), (29, .int .i64 (s.k : Int))]) [] (fun s H' => s.k ≤ 2 ^ S.length ∧ n4 ≤ s.n ∧ LInv (matS S) s.k s.f s.l ∧ Sl s.Mx 1 s.v (nodes s.l) ∧ hasH (s.Mx ++ T) s.n H') (fun s => 2 ^ S.length - s.k) ⟨0, .slice none 0 0, [], false, [], n4⟩ (by repeat' (first | exact .nil | refine .cons rfl ?_)) rfl
    ⟨Nat.zero_le _, Nat.le_refl _, .inl ⟨rfl, rfl, fun s h => absurd h (Nat.not_lt_zero _)⟩, .nil 0, hH4⟩ ?_
  clear hH4
  rintro ⟨k, va, l, f, Mx, n5⟩ H5 ⟨hk, hn5, hI, hSl, hH5⟩
  simp only at hk hn5 hI hSl hH5
  have hll := hI.len
  rw [hml] at hll
  dsimp only [List.cons_append, List.nil_append]
  repeat' (first | refine zP ?_ | refine zA ?_ | (refine zM ?_; intro _ _) | refine zX ?_ | (refine zC ?_; intro _ _ _ _) | (refine zS ?_; intro _ _) | (apply Ws <;> intro hg))
  refine WC.condP rfl (fun hltk => ?_) (fun hltk => ?_)
  · have hk' : k < 2 ^ S.length := by omega
    repeat' (first | refine zP ?_ | refine zA ?_ | (refine zM ?_; intro _ _) | refine zX ?_ | (refine zC ?_; intro _ _ _ _) | (refine zS ?_; intro _ _) | (apply Ws <;> intro hg))
    refine WR.op (by first | exact gN | exact gS rfl) rfl (OpV.lenK pairV_len (by decide) rfl hV0) ?_
    rw [hwl0]
    repeat' (first | refine zP ?_ | refine zA ?_ | (refine zM ?_; intro _ _) | refine zX ?_ | (refine zC ?_; intro _ _ _ _) | (refine zS ?_; intro _ _) | (apply Ws <;> intro hg))
    refine WC.loopX [(3, _), (4, _), (5, va), (6, .bool f), (7, .int .i64 (k : Int)), (28, _), (29, .int .i64 (k : Int)), (32, v), (33, .int .i64 (S.length : Int))] (fun s : LI => [(8, s.a), (9, s.b), (34, .int .i64 (s.k : Int))]) [] (fun s H' => s.k ≤ S.length ∧ n5 ≤ s.n ∧ Own 3 1 s.a (nodes (outK k s.k)) s.Ma ∧ Own 74 2 s.b (cellsF pairV s.ws) s.Mb ∧ SalR T s.ws (pickS S (keepK k s.k)) ∧ hasH (s.Ma ++ (s.Mb ++ (Mx ++ T))) s.n H') (fun s => S.length - s.k) ⟨0, .slice none 0 0, .slice none 0 0, [], [], [], n5⟩ (by repeat' (first | exact .nil | refine .cons rfl ?_)) rfl
      ⟨Nat.zero_le _, Nat.le_refl _, .nil, .nil, .nil _, hH5⟩ ?_
    clear hH5
    rintro ⟨i, vo, vl, wl, Ma, Mb, n6⟩ H6 ⟨hi, hn6, hOa, hOb, hR, hH6⟩
    simp only at hi hn6 hOa hOb hR hH6
    dsimp only [List.cons_append, List.nil_append]
    repeat' (first | refine zP ?_ | refine zA ?_ | (refine zM ?_; intro _ _) | refine zX ?_ | (refine zC ?_; intro _ _ _ _) | (refine zS ?_; intro _ _) | (apply Ws <;> intro hg))
    refine WC.condP rfl (fun hlti => ?_) (fun hlti => ?_)
    · have hi' : i < S.length := by omega
      obtain ⟨hp, ht⟩ := hrow0 i hi'
      have hwk : ws0[i] = ws0.getD i noVal := (getD_eq (by omega)).symm
      have hone := one2 hp.one_ ht.one_
      have hsu1 := outK_succ k i
      have hsu2 := keepK_succ k i
      have hl1 := outK_len k i
      have hl2 := keepK_len k i
      have hwl := hR.1
      rw [pickS_len] at hwl
      have hVV : Sl (Ma ++ (Mb ++ (Mx ++ T))) 2 v (cellsF pairV ws0) := hV0.mono fun q hq => by simp [hq]
      repeat' (first | refine zP ?_ | refine zA ?_ | (refine zM ?_; intro _ _) | refine zX ?_ | (refine zC ?_; intro _ _ _ _) | (refine zS ?_; intro _ _) | (apply Ws <;> intro hg))
      refine WR.idxK pairV_len (by decide) (by first | exact gN | exact gS rfl) rfl rfl hVV rfl (by omega) fun b1 o1' u1' hC => ?_
      rw [hwk] at hC
      obtain ⟨w12, hw12⟩ : ∃ w12, ws0.getD i noVal = w12 := ⟨_, rfl⟩
      rw [hw12] at hp ht hC hone
      obtain ⟨w1, w2⟩ := w12
      simp only at hp ht hone
      refine WR.op (by first | exact gN | exact gS rfl) rfl (OpV.loadK rfl hC hH6 rfl) ?_
      repeat' (first | refine zP ?_ | refine zA ?_ | (refine zM ?_; intro _ _) | refine zX ?_ | (refine zC ?_; intro _ _ _ _) | (refine zS ?_; intro _ _) | (apply Ws <;> intro hg))
      rename_i H7 hH7
      refine WR.storeAll (by first | exact gN | exact gS rfl) hH7 rfl rfl (ls := [w1, w2]) rfl rfl .here hone rfl fun H8 hH8 => ?_
      clear hH7 hH6 hC
      repeat' (first | refine zP ?_ | refine zA ?_ | (refine zM ?_; intro _ _) | refine zX ?_ | (refine zC ?_; intro _ _ _ _) | (refine zS ?_; intro _ _) | (apply Ws <;> intro hg))
      refine WR.op (by first | exact gN | exact gS rfl) rfl (OpV.shrN rfl rfl (by show i ≤ 64; omega)) ?_
      repeat' (first | refine zP ?_ | refine zA ?_ | (refine zM ?_; intro _ _) | refine zX ?_ | (refine zC ?_; intro _ _ _ _) | (refine zS ?_; intro _ _) | (apply Ws <;> intro hg))
      have hsh : k >>> i ≤ k := by rw [Nat.shiftRight_eq_div_pow]; exact Nat.div_le_self _ _
      refine WR.op (by first | exact gN | exact gS rfl) rfl (OpV.andN (b := 1) rfl rfl (by show k >>> i < 2 ^ 63; omega) (by decide)) ?_
      repeat' (first | refine zP ?_ | refine zA ?_ | (refine zM ?_; intro _ _) | refine zX ?_ | (refine zC ?_; intro _ _ _ _) | (refine zS ?_; intro _ _) | (apply Ws <;> intro hg))
      rw [bit_and1]
      cases hbt : k.testBit i with
      | true =>
        rw [if_pos hbt] at hsu1 hsu2
        rw [List.append_nil] at hsu2
        repeat' (first | refine zP ?_ | refine zA ?_ | (refine zM ?_; intro _ _) | refine zX ?_ | (refine zC ?_; intro _ _ _ _) | (refine zS ?_; intro _ _) | (apply Ws <;> intro hg))
        refine WR.append1F [(n6, .row 74 0 0 [w1, w2])] Ma (Mb ++ (Mx ++ T)) rfl rfl rfl rfl hOa hH8 (new := [.int .i64 (i : Int)]) (by rfl) rfl rfl (Nat.le_refl _) (by omega) (by simp; omega) fun v3 M3 n7 H9 hO3 hH9 hn3 => ?_
        replace hH9 : hasH ((n6, .row 74 0 0 [w1, w2]) :: (M3 ++ (Mb ++ (Mx ++ T)))) n7 H9 := hH9
        repeat' (first | refine zP ?_ | refine zA ?_ | (refine zM ?_; intro _ _) | refine zX ?_ | (refine zC ?_; intro _ _ _ _) | (refine zS ?_; intro _ _) | (apply Ws <;> intro hg))
        refine Ends.loop ⟨i + 1, v3, vl, wl, M3, Mb, n7⟩ (by simp only; omega) (by repeat' (first | exact .nil | refine .cons rfl ?_)) rfl ⟨by simp only; omega, by simp only; omega, ?_, hOb, by simp only; rw [hsu2]; exact hR, hH9.tail⟩
        simp only
        rw [hsu1, show nodes (outK k i ++ [i]) = nodes (outK k i) ++ [.int .i64 (i : Int)] by simp [nodes]]; exact hO3
      | false =>
        rw [if_neg (by rw [hbt]; decide)] at hsu1 hsu2
        rw [List.append_nil] at hsu1
        repeat' (first | refine zP ?_ | refine zA ?_ | (refine zM ?_; intro _ _) | refine zX ?_ | (refine zC ?_; intro _ _ _ _) | (refine zS ?_; intro _ _) | (apply Ws <;> intro hg))
        refine WR.append1F ((n6, .row 74 0 0 [w1, w2]) :: Ma) Mb (Mx ++ T) rfl rfl rfl rfl hOb hH8 (new := [w1, w2]) (by rfl) hone rfl (by decide) (by decide) (by rw [cellsF_len pairV_len]; simp; omega) fun v3 M3 n7 H9 hO3 hH9 hn3 => ?_
        replace hH9 : hasH ((n6, .row 74 0 0 [w1, w2]) :: (Ma ++ (M3 ++ (Mx ++ T)))) n7 H9 := hH9
        repeat' (first | refine zP ?_ | refine zA ?_ | (refine zM ?_; intro _ _) | refine zX ?_ | (refine zC ?_; intro _ _ _ _) | (refine zS ?_; intro _ _) | (apply Ws <;> intro hg))
        rw [cells_snoc] at hO3
        refine Ends.loop ⟨i + 1, vo, v3, wl ++ [(w1, w2)], Ma, M3, n7⟩ (by simp only; omega) (by repeat' (first | exact .nil | refine .cons rfl ?_)) rfl ⟨by simp only; omega, by simp only; omega, by simp only; rw [hsu1]; exact hOa, hO3, ?_, hH9.tail⟩
        simp only
        rw [hsu2, pickS_snoc]
        exact hR.snoc hp ht
    · have hin : i = S.length := by omega
      subst hin
      have hokP : OKS g (pickS S (keepK k S.length)) := hok.pick keepK_lt (by have := keepK_len k S.length; omega)
      have hS2 : SalesI (Ma ++ (Mb ++ (Mx ++ T))) vl (pickS S (keepK k S.length)) := ((hR.mono fun q hq => by simp [hq]).sales ((hOb.sl (Mx ++ T)).mono fun q hq => List.mem_append_right _ hq))
      have hSo := hOa.sl (Mb ++ (Mx ++ T))
      have hSl2 : Sl (Ma ++ (Mb ++ (Mx ++ T))) 1 va (nodes l) := hSl.mono fun q hq => by simp [hq]
      have hol := outK_len k S.length
      have htw : tasteB (matS (pickS S (keepK k S.length))) = okW (matS S) k := by rw [okW, hml, pick_mat keepK_lt]
      have ho1 := hSo.one_
      repeat' (first | refine zP ?_ | refine zA ?_ | (refine zM ?_; intro _ _) | refine zX ?_ | (refine zC ?_; intro _ _ _ _) | (refine zS ?_; intro _ _) | (apply Ws <;> intro hg))
      refine WR.call (by first | exact gN | exact gS rfl) rfl rfl (ringed_fs hH6 hokP hS2) ?_
      rintro _ H7 ⟨n7, hn7, hH7, rfl⟩
      rw [htw]
      clear hH6 hS2 hokP htw
      have hback : ∀ {n : Nat} {H : Heap}, hasH (Ma ++ (Mb ++ (Mx ++ T))) n H → hasH (Mx ++ T) n H := fun h => h.sub ((List.sublist_append_right _ _).trans (List.sublist_append_right _ _))
      have hnew : ∀ {n : Nat} {H : Heap}, hasH (Ma ++ (Mb ++ (Mx ++ T))) n H → hasH (Ma ++ T) n H := fun h => h.sub ((List.Sublist.refl _).append ((List.sublist_append_right _ _).trans (List.sublist_append_right _ _)))
      have hSn : Sl Ma 1 vo (nodes (outK k S.length)) := by have := hOa.sl []; rwa [List.append_nil] at this
      cases hok2 : okW (matS S) k with
      | false =>
        repeat' (first | refine zP ?_ | refine zA ?_ | (refine zM ?_; intro _ _) | refine zX ?_ | (refine zC ?_; intro _ _ _ _) | (refine zS ?_; intro _ _) | (apply Ws <;> intro hg))
        exact Ends.loop ⟨k + 1, va, l, f, Mx, n7⟩ (by simp only; omega) (by repeat' (first | exact .nil | refine .cons rfl ?_)) rfl ⟨by simp only; omega, by simp only; omega, hI.skip hok2, hSl, hback hH7⟩
      | true =>
        cases f with
        | false =>
          repeat' (first | refine zP ?_ | refine zA ?_ | (refine zM ?_; intro _ _) | refine zX ?_ | (refine zC ?_; intro _ _ _ _) | (refine zS ?_; intro _ _) | (apply Ws <;> intro hg))
          exact Ends.loop ⟨k + 1, vo, outK k S.length, true, Ma, n7⟩ (by simp only; omega) (by repeat' (first | exact .nil | refine .cons rfl ?_)) rfl ⟨by simp only; omega, by simp only; omega, by have := hI.first (by rw [hml]; exact hk') hok2; rwa [hml] at this, hSn, hnew hH7⟩
        | true =>
          have htake : ordN (outK k S.length) l → LInv (matS S) (k + 1) true (outK k S.length) := fun ho => by
            have := hI.take (by rw [hml]; exact hk') hok2 (by rw [hml]; exact ho)
            rwa [hml] at this
          have hkeep : ¬ ordN (outK k S.length) l → LInv (matS S) (k + 1) true l := fun ho => hI.keep (by rw [hml]; exact ho)
          by_cases hlt : (outK k S.length).length < l.length
          · repeat' (first | refine zP ?_ | refine zA ?_ | (refine zM ?_; intro _ _) | refine zX ?_ | (refine zC ?_; intro _ _ _ _) | (refine zS ?_; intro _ _) | refine zO ?_ | (apply Ws <;> intro hg))
            exact Ends.loop ⟨k + 1, vo, outK k S.length, true, Ma, n7⟩ (by simp only; omega) (by repeat' (first | exact .nil | refine .cons rfl ?_)) rfl ⟨by simp only; omega, by simp only; omega, htake (.inl hlt), hSn, hnew hH7⟩
          · by_cases heq : (outK k S.length).length = l.length
            · repeat' (first | refine zP ?_ | refine zA ?_ | (refine zM ?_; intro _ _) | refine zX ?_ | (refine zC ?_; intro _ _ _ _) | (refine zS ?_; intro _ _) | refine zO ?_ | (apply Ws <;> intro hg))
              refine WR.call (by first | exact gN | exact gS rfl) rfl rfl (CompareN_fs hH7 hSo hSl2 (by omega) (by omega)) ?_
              rintro _ _ ⟨rfl, rfl⟩
              by_cases hcm : lexC (IL (outK k S.length)) (IL l) < 0
              · repeat' (first | refine zP ?_ | refine zA ?_ | (refine zM ?_; intro _ _) | refine zX ?_ | (refine zC ?_; intro _ _ _ _) | (refine zS ?_; intro _ _) | refine zO ?_ | (apply Ws <;> intro hg))
                exact Ends.loop ⟨k + 1, vo, outK k S.length, true, Ma, n7⟩ (by simp only; omega) (by repeat' (first | exact .nil | refine .cons rfl ?_)) rfl ⟨by simp only; omega, by simp only; omega, htake (.inr ⟨heq, lexN_C.1 hcm⟩), hSn, hnew hH7⟩
              · repeat' (first | refine zP ?_ | refine zA ?_ | (refine zM ?_; intro _ _) | refine zX ?_ | (refine zC ?_; intro _ _ _ _) | (refine zS ?_; intro _ _) | refine zO ?_ | (apply Ws <;> intro hg))
                refine Ends.loop ⟨k + 1, va, l, true, Mx, n7⟩ (by simp only; omega) (by repeat' (first | exact .nil | refine .cons rfl ?_)) rfl ⟨by simp only; omega, by simp only; omega, hkeep (fun q => ?_), hSl, hback hH7⟩
                rcases q with q | ⟨_, q⟩
                · exact hlt q
                · exact hcm (lexN_C.2 q)
            · repeat' (first | refine zP ?_ | refine zA ?_ | (refine zM ?_; intro _ _) | refine zX ?_ | (refine zC ?_; intro _ _ _ _) | (refine zS ?_; intro _ _) | refine zO ?_ | (apply Ws <;> intro hg))
              refine Ends.loop ⟨k + 1, va, l, true, Mx, n7⟩ (by simp only; omega) (by repeat' (first | exact .nil | refine .cons rfl ?_)) rfl ⟨by simp only; omega, by simp only; omega, hkeep (fun q => ?_), hSl, hback hH7⟩
              rcases q with q | ⟨q, _⟩
              · exact hlt q
              · exact heq q
  · have hkl : k = 2 ^ S.length := by omega
    subst hkl
    have hbest : BestW (matS S) l := by
      have : 2 ^ S.length = 2 ^ (matS S).length := by rw [hml]
      rw [this] at hI
      exact hI.fin
    have hva := hSl.one_
    replace hS := hS.mono (M' := Mx ++ T) fun q hq => List.mem_append_right _ hq
    replace hSl := hSl.mono (M' := Mx ++ T) fun q hq => List.mem_append_left _ hq
    clear hV0 hwl0 hrow0 hI
    generalize Mx ++ T = T at hH5 hS hSl
    repeat' (first | refine zP ?_ | refine zA ?_ | (refine zM ?_; intro _ _) | refine zX ?_ | (refine zC ?_; intro _ _ _ _) | (refine zS ?_; intro _ _) | (apply Ws <;> intro hg))
    refine WR.call (by first | exact gN | exact gS rfl) rfl rfl (Wrong_fs hH5 hS hlenS g) ?_
    rintro _ H6 ⟨n6, M6, hn6, hH6, hWO⟩
    obtain ⟨wu, wl, hwu, hwb, hSw, rfl⟩ := hWO.ok hok
    obtain rfl : l = wl := hbest.unique hwb
    clear hH5
    replace hS := hS.mono (M' := M6 ++ T) fun q hq => List.mem_append_right _ hq
    replace hSl := hSl.mono (M' := M6 ++ T) fun q hq => List.mem_append_right _ hq
    generalize M6 ++ T = T at hH6 hS hSl hSw
    repeat' (first | refine zP ?_ | refine zA ?_ | (refine zM ?_; intro _ _) | refine zX ?_ | (refine zC ?_; intro _ _ _ _) | (refine zS ?_; intro _ _) | (apply Ws <;> intro hg))
    refine WR.call (by first | exact gN | exact gS rfl) rfl rfl (Taste_fs hH6 hS hlenS g) ?_
    rintro _ H7 ⟨n7, hn7, hH7, rfl⟩
    rw [h0, decide_eq_true rfl, Bool.true_and]
    clear hH6
    repeat' (first | refine zP ?_ | refine zA ?_ | (refine zM ?_; intro _ _) | refine zX ?_ | (refine zC ?_; intro _ _ _ _) | (refine zS ?_; intro _ _) | (apply Ws <;> intro hg))
    refine WR.call (by first | exact gN | exact gS rfl) rfl rfl (Ring_fs hH7 hS hlenS g) ?_
    rintro e8 H8 ⟨n8, M8, hn8, hH8, hRO⟩
    obtain ⟨ra, hra, hRO⟩ := hRO.ok hok
    replace hSl := hSl.mono (M' := M8 ++ T) fun q hq => List.mem_append_right _ hq
    replace hSw := hSw.mono (M' := M8 ++ T) fun q hq => List.mem_append_right _ hq
    clear hH7 hS
    generalize M8 ++ T = T at hH8 hSl hSw hRO
    have hnil := wrong_nil hP hbest
    have hfin : ∀ {H' : Heap}, FS C 16 [] H' (fun e H'' => e = .bool true ∧ H'' = H') := fun {H'} => FS.works ⟨rfl, rfl⟩
    rcases hRO with ⟨htb, rfl, rfl⟩ | ⟨htb, rfl, z, hz, hSz⟩
    · have hwn := hnil.2 htb
      rw [htb]
      repeat' (first | refine zP ?_ | refine zA ?_ | (refine zM ?_; intro _ _) | refine zX ?_ | (refine zC ?_; intro _ _ _ _) | (refine zS ?_; intro _ _) | refine zO ?_ | (apply Ws <;> intro hg))
      refine WC.loopX [(12, wu), (13, .int .i64 0), (14, .bool true), (15, .int .i64 0), (18, .bool true), (5, va), (102, .slice none 0 0), (103, .int .i64 0)] (fun k : Nat => [(104, .int .i64 (k : Int))]) [] (fun k H' => H' = H8 ∧ k = 0) (fun k => 0) 0 (by repeat' (first | exact .nil | refine .cons rfl ?_)) rfl ⟨rfl, rfl⟩ ?_
      rintro k H9 ⟨rfl, rfl⟩
      dsimp only [List.cons_append, List.nil_append]
      repeat' (first | refine zP ?_ | refine zA ?_ | (refine zM ?_; intro _ _) | refine zX ?_ | (refine zC ?_; intro _ _ _ _) | (refine zS ?_; intro _ _) | refine zO ?_ | (apply Ws <;> intro hg))
      refine WR.call (by first | exact gN | exact gS rfl) rfl rfl (sameN_fs hH8 hSw hSl (by omega)) ?_
      rintro _ _ ⟨rfl, rfl⟩
      rw [decide_eq_true rfl]
      repeat' (first | refine zP ?_ | refine zA ?_ | (refine zM ?_; intro _ _) | refine zX ?_ | (refine zC ?_; intro _ _ _ _) | (refine zS ?_; intro _ _) | refine zO ?_ | (apply Ws <;> intro hg))
      refine WR.op (by first | exact gN | exact gS rfl) rfl (OpV.eqB (eqlB _ _) rfl rfl) ?_
      rw [hwn]
      repeat' (first | refine zP ?_ | refine zA ?_ | (refine zM ?_; intro _ _) | refine zX ?_ | (refine zC ?_; intro _ _ _ _) | (refine zS ?_; intro _ _) | refine zO ?_ | (apply Ws <;> intro hg))
      refine WR.call (by first | exact gN | exact gS rfl) rfl rfl hfin ?_
      rintro _ _ ⟨rfl, rfl⟩
      repeat' (first | refine zP ?_ | refine zA ?_ | (refine zM ?_; intro _ _) | refine zX ?_ | (refine zC ?_; intro _ _ _ _) | (refine zS ?_; intro _ _) | refine zO ?_ | (apply Ws <;> intro hg))
      exact Ends.ret1 rfl rfl
    · obtain ⟨hz1, hz2, hz3, hz4⟩ := ring_facts hz
      have hk := firstRing_least hz
      obtain ⟨x, hx1, hx2⟩ := ring_hit hk.1.1 hk.1.2 hbest
      obtain ⟨m0, hm0, hm0e⟩ := mem_at hx1
      have hwn : l ≠ [] := fun h => by rw [hnil.1 h] at htb; cases htb
      have hwn0 := List.length_pos_iff.2 hwn
      rw [htb]
      repeat' (first | refine zP ?_ | refine zA ?_ | (refine zM ?_; intro _ _) | refine zX ?_ | (refine zC ?_; intro _ _ _ _) | (refine zS ?_; intro _ _) | refine zO ?_ | (apply Ws <;> intro hg))
      refine WC.loopX [(12, wu), (13, .int .i64 0), (14, .bool false), (15, .int .i64 0), (5, va), (102, ra), (103, .int .i64 (z.length : Int))] (fun k : Nat => [(18, .bool ((List.range k).any fun j => decide (z.getD j 0 ∈ l))), (104, .int .i64 (k : Int))]) [] (fun k H' => H' = H8 ∧ k ≤ z.length) (fun k => z.length - k) 0 (by repeat' (first | exact .nil | refine .cons rfl ?_)) rfl ⟨rfl, Nat.zero_le _⟩ ?_
      rintro k H9 ⟨rfl, hk2⟩
      have hsu : ((List.range (k + 1)).any fun j => decide (z.getD j 0 ∈ l)) = (((List.range k).any fun j => decide (z.getD j 0 ∈ l)) || decide (z.getD k 0 ∈ l)) := by simp [List.range_succ]
      dsimp only [List.cons_append, List.nil_append]
      repeat' (first | refine zP ?_ | refine zA ?_ | (refine zM ?_; intro _ _) | refine zX ?_ | (refine zC ?_; intro _ _ _ _) | (refine zS ?_; intro _ _) | (apply Ws <;> intro hg))
      refine WC.condP rfl (fun hltz => ?_) (fun hltz => ?_)
      · have hkz : k < z.length := by omega
        cases hany : (List.range k).any fun j => decide (z.getD j 0 ∈ l) with
        | true =>
          rw [hany, Bool.true_or] at hsu
          repeat' (first | refine zP ?_ | refine zA ?_ | (refine zM ?_; intro _ _) | refine zX ?_ | (refine zC ?_; intro _ _ _ _) | (refine zS ?_; intro _ _) | (apply Ws <;> intro hg))
          exact Ends.loop (k + 1) (by omega) (by simp only [hsu]; exact (by repeat' (first | exact .nil | refine .cons rfl ?_))) rfl ⟨rfl, hkz⟩
        | false =>
          rw [hany, Bool.false_or] at hsu
          repeat' (first | refine zP ?_ | refine zA ?_ | (refine zM ?_; intro _ _) | refine zX ?_ | (refine zC ?_; intro _ _ _ _) | (refine zS ?_; intro _ _) | (apply Ws <;> intro hg))
          refine WR.call (by first | exact gN | exact gS rfl) rfl rfl (Contains_fs hH8 hSw (by omega) _) ?_
          rintro _ _ ⟨rfl, rfl⟩
          repeat' (first | refine zP ?_ | refine zA ?_ | (refine zM ?_; intro _ _) | refine zX ?_ | (refine zC ?_; intro _ _ _ _) | (refine zS ?_; intro _ _) | (apply Ws <;> intro hg))
          exact Ends.loop (k + 1) (by omega) (by simp only [hsu]; exact (by repeat' (first | exact .nil | refine .cons rfl ?_))) rfl ⟨rfl, hkz⟩
      · have hkz : k = z.length := by omega
        have hall : ((List.range k).any fun j => decide (z.getD j 0 ∈ l)) = true := List.any_eq_true.2 ⟨m0, List.mem_range.2 (by omega), by rw [hm0e]; exact decide_eq_true hx2⟩
        rw [hall]
        repeat' (first | refine zP ?_ | refine zA ?_ | (refine zM ?_; intro _ _) | refine zX ?_ | (refine zC ?_; intro _ _ _ _) | (refine zS ?_; intro _ _) | refine zO ?_ | (apply Ws <;> intro hg))
        refine WR.call (by first | exact gN | exact gS rfl) rfl rfl (sameN_fs hH8 hSw hSl (by omega)) ?_
        rintro _ _ ⟨rfl, rfl⟩
        rw [decide_eq_true rfl]
        repeat' (first | refine zP ?_ | refine zA ?_ | (refine zM ?_; intro _ _) | refine zX ?_ | (refine zC ?_; intro _ _ _ _) | (refine zS ?_; intro _ _) | refine zO ?_ | (apply Ws <;> intro hg))
        refine WR.op (by first | exact gN | exact gS rfl) rfl (OpV.eqB (eqlB _ _) rfl rfl) ?_
        rw [show ((false : Bool) == decide ((l.length : Int) = 0)) = true by rw [decide_eq_false (by omega)]; rfl]
        repeat' (first | refine zP ?_ | refine zA ?_ | (refine zM ?_; intro _ _) | refine zX ?_ | (refine zC ?_; intro _ _ _ _) | (refine zS ?_; intro _ _) | refine zO ?_ | (apply Ws <;> intro hg))
        refine WR.call (by first | exact gN | exact gS rfl) rfl rfl hfin ?_
        rintro _ _ ⟨rfl, rfl⟩
        repeat' (first | refine zP ?_ | refine zA ?_ | (refine zM ?_; intro _ _) | refine zX ?_ | (refine zC ?_; intro _ _ _ _) | (refine zS ?_; intro _ _) | refine zO ?_ | (apply Ws <;> intro hg))
        exact Ends.ret1 rfl rfl
end
end Go.Proofs.Yteopjpfhhekkoaa.Tt
