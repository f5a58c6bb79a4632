/- TasteMore: without sales; both. -/
import Derived.Test.YteopjpfhhekkoaaJ4
namespace Go.Proofs.Yteopjpfhhekkoaa.Tt
open Go Go.Abs Go.Mth
set_option linter.unusedVariables false
set_option linter.unusedSimpArgs false
attribute [local irreducible] gOK WS WC WR WD Ends FS YS OpV seqK blockK loopK midK retK rdK asgK rangeEnd sat Cell
section
variable {M : HL} {n0 : Nat} {H : Heap} {v w u : Value}
set_option maxHeartbeats 2000000 in
theorem made0_fs (hH : hasH M n0 H) {xs : List Nat} (hl : xs.length = 39) (hb : ∀ x ∈ xs, x ≤ 255) {most : Nat} (hm : most ≤ 6) (hz : xs.getD 1 0 % (most + 1) = 0) :
    FS C 43 [.agg (numsK .u8 xs).toArray, .int .i64 (most : Int)] H (fun e H' => e = .tuple #[.int .i64 ((1 + xs.getD 0 0 % 3 : Nat) : Int), .slice none 0 0] ∧ hasH ((n0, .row 61 0 0 (numsK .u8 xs)) :: M) (n0 + 1) H') := by
  have hbd : ∀ k, k < 39 → xs.getD k 0 ≤ 255 := fun k hk => hb _ (getD_mem (by omega))
  have hone : (numsK .u8 xs).all one = true := by rw [List.all_eq_true]; intro q hq; obtain ⟨z, _, rfl⟩ := List.mem_map.1 hq; rfl
  have hb0 := hbd 0 (by omega)
  have hb1 := hbd 1 (by omega)
  have hb2 := hbd 2 (by omega)
  refine FS.intro (pf := pf43) rfl rfl rfl ?_
  repeat' (first | refine zP ?_ | refine zA ?_ | (refine zM ?_; intro _ _) | refine zX ?_ | (refine zC ?_; intro _ _ _ _) | (refine zS ?_; intro _ _) | (apply Ws <;> intro hg))
  rename_i H1 hH1
  refine WR.op (by first | exact gN | exact gS rfl) rfl (OpV.conv u8k i64k rfl (c := ((xs.getD 0 0 : Nat) : Int)) (IntWalk.i64_in _ (by omega))) ?_
  have hmod := Nat.mod_lt (xs.getD 0 0) (show 0 < 3 by omega)
  have hmod1 := Nat.mod_lt (xs.getD 1 0) (show 0 < most + 1 by omega)
  repeat' (first | refine zP ?_ | refine zA ?_ | (refine zM ?_; intro _ _) | refine zX ?_ | (refine zC ?_; intro _ _ _ _) | (refine zS ?_; intro _ _) | (apply Ws <;> intro hg))
  rw [show ((xs.getD 0 0 : Nat) : Int) % 3 = ((xs.getD 0 0 % 3 : Nat) : Int) by simp]
  obtain ⟨g, hg⟩ : ∃ g, 1 + xs.getD 0 0 % 3 = g := ⟨_, rfl⟩
  have hg13 : 1 ≤ g ∧ g ≤ 3 := by omega
  repeat' (first | refine zP ?_ | refine zA ?_ | (refine zM ?_; intro _ _) | refine zX ?_ | (refine zC ?_; intro _ _ _ _) | (refine zS ?_; intro _ _) | (apply Ws <;> intro hg))
  rw [show (1 : Int) + ((xs.getD 0 0 % 3 : Nat) : Int) = ((1 + xs.getD 0 0 % 3 : Nat) : Int) by omega]
  rw [hg]
  repeat' (first | refine zP ?_ | refine zA ?_ | (refine zM ?_; intro _ _) | refine zX ?_ | (refine zC ?_; intro _ _ _ _) | (refine zS ?_; intro _ _) | (apply Ws <;> intro hg))
  refine WR.op (by first | exact gN | exact gS rfl) rfl (OpV.conv u8k i64k rfl (c := ((xs.getD 1 0 : Nat) : Int)) (IntWalk.i64_in _ (by omega))) ?_
  repeat' (first | refine zP ?_ | refine zA ?_ | (refine zM ?_; intro _ _) | refine zX ?_ | (refine zC ?_; intro _ _ _ _) | (refine zS ?_; intro _ _) | (apply Ws <;> intro hg))
  rw [show ((xs.getD 1 0 : Nat) : Int) % ((most : Int) + 1) = ((xs.getD 1 0 % (most + 1) : Nat) : Int) by simp]
  obtain ⟨N, hN⟩ : ∃ N, xs.getD 1 0 % (most + 1) = N := ⟨_, rfl⟩
  have hN6 : N ≤ 6 := by omega
  rw [hN]
  repeat' (first | refine zP ?_ | refine zA ?_ | (refine zM ?_; intro _ _) | refine zX ?_ | (refine zC ?_; intro _ _ _ _) | (refine zS ?_; intro _ _) | (apply Ws <;> intro hg))
  obtain rfl : N = 0 := by omega
  refine WC.loopX [(2, _), (6, _), (32, _)] (fun k : Nat => [(7, .slice none 0 0), (33, .int .i64 (k : Int))]) [] (fun k H' => k = 0 ∧ hasH ((n0, .row 61 0 0 (numsK .u8 xs)) :: M) (n0 + 1) H') (fun k => k) 0 (by repeat' (first | exact .nil | refine .cons rfl ?_)) rfl ⟨rfl, hH1⟩ ?_
  rintro k H2 ⟨rfl, hH2⟩
  dsimp only [List.cons_append, List.nil_append]
  repeat' (first | refine zP ?_ | refine zA ?_ | (refine zM ?_; intro _ _) | refine zX ?_ | (refine zC ?_; intro _ _ _ _) | (refine zS ?_; intro _ _) | (apply Ws <;> intro hg))
  exact Ends.ret2 rfl rfl ⟨rfl, hH2⟩
set_option maxHeartbeats 8000000 in
theorem TasteMore0_fs (hH : hasH M n0 H) {xs : List Nat} (hl : xs.length = 39) (hb : ∀ x ∈ xs, x ≤ 255) {oa : Nat} (hoa : oa ≤ 255) (hz : xs.getD 1 0 % (5 + 1) = 0) :
    FS C 13 [.agg (numsK .u8 xs).toArray, .int .u8 (oa : Int)] H (fun e H' => e = .bool true) := by
  have hoN := numsK_one .u8 xs
  have hxl : (numsK .u8 xs).length = 39 := by simpa using hl
  refine FS.intro (pf := pf13) rfl rfl rfl ?_
  repeat' (first | refine zP ?_ | refine zA ?_ | (refine zM ?_; intro _ _) | refine zX ?_ | (refine zC ?_; intro _ _ _ _) | (refine zS ?_; intro _ _) | (apply Ws <;> intro hg))
  rename_i H1 hH1
  clear hH
  refine WR.call (by first | exact gN | exact gS rfl) rfl rfl (made0_fs hH1 hl hb (most := 5) (by omega) hz) ?_
  rintro _ H4 ⟨rfl, hH4⟩
  obtain ⟨g, hg⟩ : ∃ g, 1 + xs.getD 0 0 % 3 = g := ⟨_, rfl⟩
  obtain ⟨S, hSe⟩ : ∃ S : List Sal, S = [] := ⟨[], rfl⟩
  have hlen5 : S.length = 0 := by rw [hSe]; rfl
  have hSE : ∀ s ∈ S, OKE g s := fun s hs => by rw [hSe] at hs; cases hs
  have hok : OKS g S := .of (by omega) (by omega) (by omega) hSE
  have h0 := err0 hok
  have hlenS := hok.lens
  rw [hg]
  have mH : (n0, Ch.row 61 0 0 (numsK .u8 xs)) ∈ (n0, Ch.row 61 0 0 (numsK .u8 xs)) :: M := .head _
  obtain ⟨v, hve⟩ : ∃ v : Value, v = .slice none 0 0 := ⟨_, rfl⟩
  have hS : SalesI ((n0, Ch.row 61 0 0 (numsK .u8 xs)) :: M) v S := ⟨[], by rw [hve]; exact .nil 0, by rw [hlen5]; rfl, fun i hi => by omega⟩
  rw [← hve]
  replace hH4 := hH4.tail
  obtain ⟨n4, hn4, hn04⟩ : ∃ n4, n0 + 1 + 1 = n4 ∧ n0 + 1 ≤ n4 := ⟨_, rfl, by omega⟩
  rw [hn4] at hH4
  generalize (n0, Ch.row 61 0 0 (numsK .u8 xs)) :: M = T at hH4 hS mH
  clear hH1 hz
  have hv := hS.one_
  repeat' (first | refine zP ?_ | refine zA ?_ | (refine zM ?_; intro _ _) | refine zX ?_ | (refine zC ?_; intro _ _ _ _) | (refine zS ?_; intro _ _) | (apply Ws <;> intro hg))
  refine WR.call (by first | exact gN | exact gS rfl) rfl rfl (Taste_fs hH4 hS hlenS g) ?_
  rintro _ H5 ⟨n5, hn5, hH5, rfl⟩
  rw [h0, decide_eq_true (show (0 : Int) = 0 from rfl), Bool.true_and]
  clear hH4
  repeat' (first | refine zP ?_ | refine zA ?_ | (refine zM ?_; intro _ _) | refine zX ?_ | (refine zC ?_; intro _ _ _ _) | (refine zS ?_; intro _ _) | (apply Ws <;> intro hg))
  refine WR.call (by first | exact gN | exact gS rfl) rfl rfl (Wrong_fs hH5 hS hlenS g) ?_
  rintro _ H6 ⟨n6, M6, hn6, hH6, hWO⟩
  obtain ⟨wv, wl, hwv, hBW, hWS, rfl⟩ := hWO.ok hok
  clear hH5
  replace hS := hS.mono (M' := M6 ++ T) fun q hq => List.mem_append_right _ hq
  replace mH := List.mem_append_right M6 mH
  generalize M6 ++ T = T at hH6 hS mH hWS
  repeat' (first | refine zP ?_ | refine zA ?_ | (refine zM ?_; intro _ _) | refine zX ?_ | (refine zC ?_; intro _ _ _ _) | (refine zS ?_; intro _ _) | refine zO ?_ | (apply Ws <;> intro hg))
  refine WR.op (by first | exact gN | exact gS rfl) rfl (OpV.neB (nq4 _ _) rfl rfl) ?_
  have hwz : decide ((wl.length : Int) = 0) = tasteB (matS S) := by
    have hwn := wrong_nil hok.sq hBW
    cases ht : tasteB (matS S) with
    | true => rw [decide_eq_true]; rw [hwn.2 ht]; rfl
    | false =>
      rw [decide_eq_false]
      intro k
      have : wl = [] := List.length_eq_zero_iff.1 (by omega)
      rw [hwn.1 this] at ht; cases ht
  rw [hwz, show (tasteB (matS S) != tasteB (matS S)) = false by cases tasteB (matS S) <;> rfl]
  repeat' (first | refine zP ?_ | refine zA ?_ | (refine zM ?_; intro _ _) | refine zX ?_ | (refine zC ?_; intro _ _ _ _) | (refine zS ?_; intro _ _) | refine zO ?_ | (apply Ws <;> intro hg))
  rename_i H7 hH7
  have hxs6 : (xs.set 1 6).length = 39 := by rw [List.length_set]; exact hl
  have hb6 : ∀ x ∈ xs.set 1 6, x ≤ 255 := fun x hx => by
    rcases List.mem_or_eq_of_mem_set hx with h | h
    · exact hb x h
    · omega
  have e0 : (xs.set 1 6).getD 0 0 = xs.getD 0 0 := by rw [getD_set' (by omega)]; simp
  have e1 : (xs.set 1 6).getD 1 0 = 6 := by rw [getD_set' (by omega)]; simp
  refine WR.storeAll (by first | exact gN | exact gS rfl) hH7 rfl rfl (ls := numsK .u8 xs) rfl hxl .here hoN (by rw [hxl]; rfl) fun H8 hH8 => ?_
  clear hH7 hH6
  repeat' (first | refine zP ?_ | refine zA ?_ | (refine zM ?_; intro _ _) | refine zX ?_ | (refine zC ?_; intro _ _ _ _) | (refine zS ?_; intro _ _) | refine zO ?_ | (apply Ws <;> intro hg))
  rename_i H9 hH9
  replace hH9 : hasH ((n6, Ch.row 61 0 0 (numsK .u8 (xs.set 1 6))) :: T) (n6 + 1) H9 := hH9
  have hxl6 : (numsK .u8 (xs.set 1 6)).length = 39 := by simpa using hl
  have hoN6 := numsK_one .u8 (xs.set 1 6)
  clear hH8
  repeat' (first | refine zP ?_ | refine zA ?_ | (refine zM ?_; intro _ _) | refine zX ?_ | (refine zC ?_; intro _ _ _ _) | (refine zS ?_; intro _ _) | (apply Ws <;> intro hg))
  refine WR.call (by first | exact gN | exact gS rfl) rfl rfl (made_fs hH9 hxs6 hb6 (most := 6) (by omega)) ?_
  rintro _ H10 ⟨S2, v2, n10, M10, hSE2, hSl2, hn10, hH10, hS2, rfl⟩
  rw [e0, hg] at hSE2
  rw [e1] at hSl2
  rw [e0, hg]
  replace hS := hS.mono (M' := M10 ++ (n6, Ch.row 61 0 0 (numsK .u8 (xs.set 1 6))) :: T) fun q hq => List.mem_append_right _ (.tail _ hq)
  replace hWS := hWS.mono (M' := M10 ++ (n6, Ch.row 61 0 0 (numsK .u8 (xs.set 1 6))) :: T) fun q hq => List.mem_append_right _ (.tail _ hq)
  clear hH9 mH hxl6 hoN6 hb6 hxs6 e0 e1 hxl hoN hl hb
  generalize M10 ++ (n6, Ch.row 61 0 0 (numsK .u8 (xs.set 1 6))) :: T = T at hH10 hS hWS hS2
  have hok2 : OKS g S2 := .of (by have := hok.g1; omega) hok.g3 (by omega) hSE2
  have hv2 := hS2.one_
  obtain ⟨ws, hV, hwl, hrow⟩ := hS.at
  obtain ⟨ws2, hV2, hwl2, hrow2⟩ := hS2.at
  repeat' (first | refine zP ?_ | refine zA ?_ | (refine zM ?_; intro _ _) | refine zX ?_ | (refine zC ?_; intro _ _ _ _) | (refine zS ?_; intro _ _) | (apply Ws <;> intro hg))
  subst hve
  refine WC.regionD ?_
  repeat' (first | refine zD ?_ | (refine zE ?_; intro _ _ _ _))
  refine WD.idxK pairV_len (by decide) (by first | exact gN | exact gS rfl) rfl rfl hV2 rfl (show 5 < ws2.length by omega) fun b6 p6 u6 hC => ?_
  obtain ⟨hrp, hrt⟩ := hrow2 5 (by omega)
  have hw5 : ws2[5] = ws2.getD 5 noVal := (getD_eq (by omega)).symm
  rw [hw5] at hC
  obtain ⟨w12, hw12⟩ : ∃ w12, ws2.getD 5 noVal = w12 := ⟨_, rfl⟩
  rw [hw12] at hrp hrt hC
  obtain ⟨w1, w2⟩ := w12
  simp only at hrp hrt
  refine WD.loadN (by first | exact gN | exact gS rfl) rfl rfl (hC.readN' hH10 rfl) ?_
  repeat' (first | refine zD ?_ | (refine zE ?_; intro _ _ _ _))
  refine WD.call (by first | exact gN | exact gS rfl) rfl rfl (CloneNilS_fs H10 0) ?_
  rintro _ H11 ⟨rfl, rfl⟩
  refine ⟨stands_cons (.inr (holds_two (hC.readN' hH10 rfl) hrp.same hrt.same)) stands_nil', WD.toWR rfl ?_⟩
  have hwe : ws = [] := List.length_eq_zero_iff.1 (by omega)
  have hcl : (cellsF pairV ws).length = 0 := by rw [hwe]; rfl
  have hO0 : Own 74 2 (.slice none 0 0) (cellsF pairV ws) [] := by rw [hwe]; exact .nil
  clear hC
  repeat' (first | refine zP ?_ | refine zA ?_ | (refine zM ?_; intro _ _) | refine zX ?_ | (refine zC ?_; intro _ _ _ _) | (refine zS ?_; intro _ _) | (apply Ws <;> intro hg))
  refine WR.append1F [] [] T rfl rfl rfl rfl hO0 hH10 (new := [w1, w2]) (by rfl) (one2 hrp.one_ hrt.one_) rfl (by decide) (by decide) (by rw [hcl]; simp) fun v3 M3 n12 H12 hO3 hH12 hn12 => ?_
  clear hH10
  replace hH12 : hasH (M3 ++ T) n12 H12 := hH12
  rw [cells_snoc] at hO3
  have hR0 : SalR T ws S := ⟨hwl, hrow⟩
  have hS3 : SalesI (M3 ++ T) v3 (S ++ [S2.getD 5 noSal]) := ((hR0.snoc hrp hrt).mono fun q hq => List.mem_append_right _ hq).sales (hO3.sl T)
  have hok3 : OKS g (S ++ [S2.getD 5 noSal]) := .of hok.g1 hok.g3 (by rw [List.length_append]; simp; omega) fun s hs => by
    rcases List.mem_append.1 hs with hs | hs
    · exact hSE s hs
    · rw [List.mem_singleton.1 hs]; exact hSE2 _ (getD_mem (by omega))
  repeat' (first | refine zP ?_ | refine zA ?_ | (refine zM ?_; intro _ _) | refine zX ?_ | (refine zC ?_; intro _ _ _ _) | (refine zS ?_; intro _ _) | (apply Ws <;> intro hg))
  refine WR.call (by first | exact gN | exact gS rfl) rfl rfl (Wrong_fs hH12 hS3 hok3.lens g) ?_
  rintro _ H13 ⟨n13, M13, hn13, hH13, hWO3⟩
  obtain ⟨wv3, wl3, hwv3, hBW3, hWS3, rfl⟩ := hWO3.ok hok3
  have hmore := wrong_more hBW hBW3
  have hwll : wl.length ≤ 6 := by
    obtain ⟨s, hs, _, he⟩ := hBW.1
    have := outK_len s (matS S).length
    rw [he]; rw [matS_len] at this ⊢; omega
  have hback := hH13.sub (List.sublist_append_right M13 (M3 ++ T))
  replace hS := hS.mono (M' := M13 ++ (M3 ++ T)) fun q hq => List.mem_append_right _ (List.mem_append_right _ hq)
  replace hWS := hWS.mono (M' := M13 ++ (M3 ++ T)) fun q hq => List.mem_append_right _ (List.mem_append_right _ hq)
  clear hH12 hback hO3 hS3 hok3 hrow hrow2 hV2 hV hS2 hok2 hrp hrt hR0 hSE2
  generalize M13 ++ (M3 ++ T) = T at hH13 hS hWS hWS3
  obtain ⟨ws, hV, hwl, hrow⟩ := hS.at
  have hfin : ∀ {H' : Heap}, FS C 16 [] H' (fun e H'' => e = .bool true ∧ H'' = H') := fun {H'} => FS.works ⟨rfl, rfl⟩
  repeat' (first | refine zP ?_ | refine zA ?_ | (refine zM ?_; intro _ _) | refine zX ?_ | (refine zC ?_; intro _ _ _ _) | (refine zS ?_; intro _ _) | refine zO ?_ | (apply Ws <;> intro hg))
  refine WR.call (by first | exact gN | exact gS rfl) rfl rfl hfin ?_
  rintro _ _ ⟨rfl, rfl⟩
  repeat' (first | refine zP ?_ | refine zA ?_ | (refine zM ?_; intro _ _) | refine zX ?_ | (refine zC ?_; intro _ _ _ _) | (refine zS ?_; intro _ _) | refine zO ?_ | (apply Ws <;> intro hg))
  exact Ends.ret1 rfl rfl
theorem TasteMoreB_fs (hH : hasH M n0 H) {xs : List Nat} (hl : xs.length = 39) (hb : ∀ x ∈ xs, x ≤ 255) {oa : Nat} (hoa : oa ≤ 255) :
    FS C 13 [.agg (numsK .u8 xs).toArray, .int .u8 (oa : Int)] H (fun e H' => e = .bool true) := by
  by_cases hz : xs.getD 1 0 % (5 + 1) = 0
  · exact TasteMore0_fs hH hl hb hoa hz
  · exact TasteMore_fs hH hl hb hoa hz
end
end Go.Proofs.Yteopjpfhhekkoaa.Tt
