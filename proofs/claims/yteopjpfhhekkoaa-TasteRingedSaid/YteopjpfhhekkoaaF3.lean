/- TasteRinged: the walk. -/
import Derived.Test.YteopjpfhhekkoaaJ4
namespace Go.Proofs.Yteopjpfhhekkoaa.Tt
open Go Go.Abs Go.Mth
set_option linter.unusedVariables false
set_option linter.unusedSimpArgs false
attribute [local irreducible] gOK WS WC WR WD Ends FS YS OpV seqK blockK loopK midK retK rdK asgK rangeEnd sat Cell
section
variable {M : HL} {n0 : Nat} {H : Heap} {v w u : Value}
set_option maxHeartbeats 8000000 in
theorem TasteRinged_fs (hH : hasH M n0 H) {xs : List Nat} (hl : xs.length = 39) (hb : ∀ x ∈ xs, x ≤ 255) :
    FS C 8 [.agg (numsK .u8 xs).toArray] H (fun e H' => e = .bool true) := by
  have ho1 := numsK_one .u8 xs
  have hxl : (numsK .u8 xs).length = 39 := by simpa using hl
  refine FS.intro (pf := pf8) rfl rfl rfl ?_
  repeat' (first | refine zP ?_ | refine zA ?_ | (refine zM ?_; intro _ _) | refine zX ?_ | (refine zC ?_; intro _ _ _ _) | (refine zS ?_; intro _ _) | (apply Ws <;> intro hg))
  rename_i H1 hH1
  clear hH
  refine WR.call (by first | exact gN | exact gS rfl) rfl rfl (made_fs hH1 hl hb (most := 5) (by omega)) ?_
  rintro _ H4 ⟨S, v, n4, M4, hSE, hSl, hn4, hH4, hS, rfl⟩
  obtain ⟨g, hg⟩ : ∃ g, 1 + xs.getD 0 0 % 3 = g := ⟨_, rfl⟩
  rw [hg] at hSE
  have hmod := Nat.mod_lt (xs.getD 1 0) (show 0 < 5 + 1 by omega)
  have hok : OKS g S := .of (by omega) (by omega) (by omega) hSE
  have hlen := hok.len
  have h0 := err0 hok
  have hlenS := hok.lens
  have hml := matS_len S
  rw [hg]
  have mH : (n0, Ch.row 61 0 0 (numsK .u8 xs)) ∈ M4 ++ (n0, Ch.row 61 0 0 (numsK .u8 xs)) :: M := by simp
  generalize M4 ++ (n0, Ch.row 61 0 0 (numsK .u8 xs)) :: M = T at hH4 hS mH
  clear hH1 hSE hSl hmod hg ho1 hxl
  have hv := hS.one_
  obtain ⟨ws0, hV0, hwl0, hrow0⟩ := hS.at
  repeat' (first | refine zP ?_ | refine zA ?_ | (refine zM ?_; intro _ _) | refine zX ?_ | (refine zC ?_; intro _ _ _ _) | (refine zS ?_; intro _ _) | (apply Ws <;> intro hg))
  refine WR.op (by first | exact gN | exact gS rfl) rfl (OpV.lenK pairV_len (by decide) rfl hV0) ?_
  rw [hwl0]
  repeat' (first | refine zP ?_ | refine zA ?_ | (refine zM ?_; intro _ _) | refine zX ?_ | (refine zC ?_; intro _ _ _ _) | (refine zS ?_; intro _ _) | (apply Ws <;> intro hg))
  rename_i H5 hH5
  obtain ⟨b1, hb1⟩ : ∃ b1, n4 + 1 = b1 := ⟨_, rfl⟩
  obtain ⟨b2, hb2⟩ : ∃ b2, n4 + 1 + 1 = b2 := ⟨_, rfl⟩
  obtain ⟨b3, hb3⟩ : ∃ b3, n4 + 1 + 1 + 1 = b3 := ⟨_, rfl⟩
  obtain ⟨b4, hb4⟩ : ∃ b4, n4 + 1 + 1 + 1 + 1 = b4 := ⟨_, rfl⟩
  obtain ⟨n5, hn5⟩ : ∃ n5, n4 + 1 + 1 + 1 + 1 + 1 = n5 := ⟨_, rfl⟩
  replace hH5 : hasH ((n4 + 1 + 1 + 1 + 1, Ch.row 3 0 0 [.int .i64 0]) :: (n4 + 1 + 1 + 1, Ch.row 4 0 0 [.bool true]) :: (n4 + 1 + 1, Ch.row 39 0 0 [.slice none 0 0]) :: (n4 + 1, Ch.row 22 0 0 [v]) :: (n4, Ch.row 3 0 0 [.int .i64 (g : Int)]) :: T) (n4 + 1 + 1 + 1 + 1 + 1) H5 := hH5
  rw [hn5, hb4, hb3, hb2, hb1] at hH5
  rw [hb4, hb3, hb2, hb1]
  have mS : (b1, Ch.row 22 0 0 [v]) ∈ (b1, Ch.row 22 0 0 [v]) :: (n4, Ch.row 3 0 0 [.int .i64 (g : Int)]) :: T := .head _
  have mg : (n4, Ch.row 3 0 0 [.int .i64 (g : Int)]) ∈ (b1, Ch.row 22 0 0 [v]) :: (n4, Ch.row 3 0 0 [.int .i64 (g : Int)]) :: T := .tail _ (.head _)
  replace mH : (n0, Ch.row 61 0 0 (numsK .u8 xs)) ∈ (b1, Ch.row 22 0 0 [v]) :: (n4, Ch.row 3 0 0 [.int .i64 (g : Int)]) :: T := .tail _ (.tail _ mH)
  replace hS := hS.mono (M' := (b1, Ch.row 22 0 0 [v]) :: (n4, Ch.row 3 0 0 [.int .i64 (g : Int)]) :: T) fun q hq => .tail _ (.tail _ hq)
  generalize (b1, Ch.row 22 0 0 [v]) :: (n4, Ch.row 3 0 0 [.int .i64 (g : Int)]) :: T = X at hH5 hS mS mg mH
  have hpl := preL_len hlen S.length []
  have hp7 : 7 ^ (S.length + 1) ≤ 7 ^ 7 := Nat.pow_le_pow_right (by omega) (by omega)
  replace hH5 : hasH ([(b4, Ch.row 3 0 0 [.int .i64 0]), (b3, Ch.row 4 0 0 [.bool true]), (b2, Ch.row 39 0 0 [.slice none 0 0])] ++ X) n5 H5 := hH5
  clear hH4 hb1 hb2 hb3 hb4 hV0 hrow0
  refine WR.call (by first | exact gN | exact gS rfl) rfl rfl (all_fs (N := S.length) (g := 48) (vb := [ptrT b1, ptrT b2, ptrT b4, ptrT n0, ptrT b3, ptrT n4]) hlen hH5
    (J := fun zs Mc X => ∃ ds vb bo, ds ++ zs = preL S.length S.length [] ∧ BestK (DP (matS S)) ds bo ∧ OptV X vb bo ∧ Mc = [(b4, Ch.row 3 0 0 [.int .i64 (ds.length : Nat)]), (b3, Ch.row 4 0 0 [.bool true]), (b2, Ch.row 39 0 0 [vb])])
    ⟨[], _, none, rfl, (fun d hd => by cases hd), rfl, rfl⟩ (fun zs Mc X X' ⟨ds, vb, bo, k1, k2, k3, k4⟩ h => ⟨ds, vb, bo, k1, k2, k3.mono h, k4⟩) ?_) ?_
  · rintro z zs Mc X' u n' H' ⟨ds, vb, bo, hds, hB, hvb, rfl⟩ hz0 hzd hZ hX hH'
    have hdl : ds.length ≤ (preL S.length S.length []).length := by rw [← hds, List.length_append]; omega
    refine FS.mono (ringed1_fs hok hl hb (by omega) (hS.mono hX) (hX _ mS) (hX _ mH) (hX _ mg) hB hvb (fun m hm => (mem_pre.1 (by rw [← hds]; exact List.mem_append_left _ hm)).2) hz0 hzd hZ hH') ?_
    rintro _ H2 ⟨n2, vb2, bo2, hn2, hB2, hvb2, hH2⟩
    have hlz : (ds ++ [z]).length = ds.length + 1 := by simp
    refine ⟨[(b4, Ch.row 3 0 0 [.int .i64 ((ds.length + 1 : Nat) : Int)]), (b3, Ch.row 4 0 0 [.bool true]), (b2, Ch.row 39 0 0 [vb2])], X', n2, hn2, fun q hq => hq, ⟨ds ++ [z], vb2, bo2, by rw [← hds]; simp, hB2, hvb2, by rw [hlz]⟩, hH2⟩
  · rintro _ H6 ⟨Mc2, X2, n6, hn6, hX2, ⟨ds, vb, bo, hds, hB, hvb, rfl⟩, hH6⟩
    rw [List.append_nil] at hds
    subst hds
    clear hH5 hpl hp7
    have hbo := hB.all hml
    replace hS := hS.mono hX2
    replace mS := hX2 _ mS
    replace mg := hX2 _ mg
    clear mH hX2
    have hvb1 := hvb.one_
    replace hH6 : hasH ((b4, Ch.row 3 0 0 [.int .i64 ((preL S.length S.length []).length : Nat)]) :: (b3, Ch.row 4 0 0 [.bool true]) :: (b2, Ch.row 39 0 0 [vb]) :: X2) n6 H6 := hH6
    replace mS : (b1, Ch.row 22 0 0 [v]) ∈ (b4, Ch.row 3 0 0 [.int .i64 ((preL S.length S.length []).length : Nat)]) :: (b3, Ch.row 4 0 0 [.bool true]) :: (b2, Ch.row 39 0 0 [vb]) :: X2 := .tail _ (.tail _ (.tail _ mS))
    replace mg : (n4, Ch.row 3 0 0 [.int .i64 (g : Int)]) ∈ (b4, Ch.row 3 0 0 [.int .i64 ((preL S.length S.length []).length : Nat)]) :: (b3, Ch.row 4 0 0 [.bool true]) :: (b2, Ch.row 39 0 0 [vb]) :: X2 := .tail _ (.tail _ (.tail _ mg))
    have mG : (b3, Ch.row 4 0 0 [.bool true]) ∈ (b4, Ch.row 3 0 0 [.int .i64 ((preL S.length S.length []).length : Nat)]) :: (b3, Ch.row 4 0 0 [.bool true]) :: (b2, Ch.row 39 0 0 [vb]) :: X2 := .tail _ (.head _)
    have mB : (b2, Ch.row 39 0 0 [vb]) ∈ (b4, Ch.row 3 0 0 [.int .i64 ((preL S.length S.length []).length : Nat)]) :: (b3, Ch.row 4 0 0 [.bool true]) :: (b2, Ch.row 39 0 0 [vb]) :: X2 := .tail _ (.tail _ (.head _))
    replace hvb := hvb.mono (M' := (b4, Ch.row 3 0 0 [.int .i64 ((preL S.length S.length []).length : Nat)]) :: (b3, Ch.row 4 0 0 [.bool true]) :: (b2, Ch.row 39 0 0 [vb]) :: X2) fun q hq => .tail _ (.tail _ (.tail _ hq))
    replace hS := hS.mono (M' := (b4, Ch.row 3 0 0 [.int .i64 ((preL S.length S.length []).length : Nat)]) :: (b3, Ch.row 4 0 0 [.bool true]) :: (b2, Ch.row 39 0 0 [vb]) :: X2) fun q hq => .tail _ (.tail _ (.tail _ hq))
    generalize (b4, Ch.row 3 0 0 [.int .i64 ((preL S.length S.length []).length : Nat)]) :: (b3, Ch.row 4 0 0 [.bool true]) :: (b2, Ch.row 39 0 0 [vb]) :: X2 = Y at hH6 mS mg mG mB hvb hS
    repeat' (first | refine zP ?_ | refine zA ?_ | (refine zM ?_; intro _ _) | refine zX ?_ | (refine zC ?_; intro _ _ _ _) | (refine zS ?_; intro _ _) | (apply Ws <;> intro hg))
    refine WR.call (by first | exact gN | exact gS rfl) rfl rfl (Ring_fs hH6 hS hlenS g) ?_
    rintro e7 H7 ⟨n7, M7, hn7, hH7, hRO⟩
    obtain ⟨ra, hra, hRO⟩ := hRO.ok hok
    replace mS := List.mem_append_right M7 mS
    replace mg := List.mem_append_right M7 mg
    replace mG := List.mem_append_right M7 mG
    replace mB := List.mem_append_right M7 mB
    replace hvb := hvb.mono (M' := M7 ++ Y) fun q hq => List.mem_append_right _ hq
    replace hS := hS.mono (M' := M7 ++ Y) fun q hq => List.mem_append_right _ hq
    clear hH6
    generalize M7 ++ Y = Y at hH7 hS mS mg mG mB hvb hRO
    have hfin : ∀ {H' : Heap}, FS C 16 [] H' (fun e H'' => e = .bool true ∧ H'' = H') := fun {H'} => FS.works ⟨rfl, rfl⟩
    rcases hRO with ⟨htb, rfl, rfl⟩ | ⟨htb, rfl, z, hz, hSz⟩
    · have hbn : bo = none := by rw [← hbo]; exact firstRing_none htb
      subst hbn
      obtain rfl : vb = .slice none 0 0 := hvb
      repeat' (first | refine zP ?_ | refine zA ?_ | (refine zM ?_; intro _ _) | refine zX ?_ | (refine zC ?_; intro _ _ _ _) | (refine zS ?_; intro _ _) | refine zO ?_ | (apply Ws <;> intro hg))
      refine WR.call (by first | exact gN | exact gS rfl) rfl rfl hfin ?_
      rintro _ _ ⟨rfl, rfl⟩
      repeat' (first | refine zP ?_ | refine zA ?_ | (refine zM ?_; intro _ _) | refine zX ?_ | (refine zC ?_; intro _ _ _ _) | (refine zS ?_; intro _ _) | (apply Ws <;> intro hg))
      exact Ends.ret1 rfl rfl
    · obtain rfl : bo = some z := by rw [← hbo]; exact hz
      obtain ⟨bz, oz, uz, cz, hve, hSv⟩ := OptV.shape hvb
      subst hve
      repeat' (first | refine zP ?_ | refine zA ?_ | (refine zM ?_; intro _ _) | refine zX ?_ | (refine zC ?_; intro _ _ _ _) | (refine zS ?_; intro _ _) | (apply Ws <;> intro hg))
      refine WR.call (by first | exact gN | exact gS rfl) rfl rfl (sameN_fs hH7 hSz hSv (by have := (ring_facts hz).2.1; omega)) ?_
      rintro _ _ ⟨rfl, rfl⟩
      rw [decide_eq_true (show z = z from rfl)]
      repeat' (first | refine zP ?_ | refine zA ?_ | (refine zM ?_; intro _ _) | refine zX ?_ | (refine zC ?_; intro _ _ _ _) | (refine zS ?_; intro _ _) | (apply Ws <;> intro hg))
      refine WR.call (by first | exact gN | exact gS rfl) rfl rfl hfin ?_
      rintro _ _ ⟨rfl, rfl⟩
      repeat' (first | refine zP ?_ | refine zA ?_ | (refine zM ?_; intro _ _) | refine zX ?_ | (refine zC ?_; intro _ _ _ _) | (refine zS ?_; intro _ _) | (apply Ws <;> intro hg))
      exact Ends.ret1 rfl rfl
end
end Go.Proofs.Yteopjpfhhekkoaa.Tt
