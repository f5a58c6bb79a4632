import Derived.Test.YtblopbimchkneaaJ3
namespace Go.Proofs.Ytblopbimchkneaa.Md
open Go Go.Abs Go.Mth
set_option linter.unusedVariables false
set_option linter.unusedSimpArgs false
theorem IL_snoc (ns : List Nat) (x : Nat) : nodes ns ++ [Value.int .i64 (x : Int)] = nodes (ns ++ [x]) := by simp [nodes]
theorem mask_take' {l : List Nat} {k : Nat} (h : k < l.length) : maskN (l.take (k + 1)) = maskN (l.take k) ||| 2 ^ l.getD k 0 := by
  rw [List.take_succ_eq_append_getElem h, mask_snoc, getD_eq h]
attribute [local irreducible] gOK WS WC WR WD Ends FS YS OpV seqK blockK loopK midK retK rdK asgK rangeEnd sat Cell
section
variable {M : HL} {n0 : Nat} {H : Heap} {v : Value} {ns : List Nat}
set_option maxHeartbeats 8000000 in
theorem MouldMore_fs (hH : hasH M n0 H) {a b c : Int} {hs : List Int} (ha : 0 ≤ a ∧ a ≤ 255) (hb : 0 ≤ b ∧ b ≤ 255) (hc : 0 ≤ c ∧ c ≤ 255) (hl : hs.length = 14) (hu : ∀ x ∈ hs, 0 ≤ x ∧ x ≤ 255) {one many more : Int} (h1 : 0 ≤ one ∧ one ≤ 255) (h2 : 0 ≤ many ∧ many ≤ 255) (h3 : 0 ≤ more ∧ more ≤ 255) :
    FS C 12 [.agg (trayV a b c hs).toArray, .int .u8 one, .int .u8 many, .int .u8 more] H (fun e H' => e = .bool true) := by
  have hone := tray_one a b c hs
  refine FS.intro (pf := pf12) rfl rfl rfl ?_
  repeat' (first | refine zP ?_ | refine zA ?_ | (refine zM ?_; intro _ _) | refine zX ?_ | (refine zC ?_; intro _ _ _ _) | (refine zS ?_; intro _ _))
  rename_i H1 hH1
  refine WR.op (by first | exact gN | exact gS rfl) rfl (OpV.loadAll (k := 17) rfl hH1 (.head _) (.row _ _ _ _) (by simp [trayV, hl])) ?_
  refine WR.call (by first | exact gN | exact gS rfl) rfl rfl (made0_fs hH1.tail ha hb hc hl hu (most := 6) (many := 7) (by omega) (by omega)) ?_
  rintro _ H2 ⟨N, ns, v, Mx, n2, rfl, hN1, hN6, hl7, hnb, hO, hn2, hH2, hv0⟩
  clear hH1
  have hS := hO.sl M
  clear hO hone
  generalize Mx ++ M = T at hH2 hS
  have hb62 := lt_62 hN6 hnb
  have hl8 : ns.length ≤ 8 := by omega
  have hE0 := casts_intro hN1 hN6 hl8 hnb
  have hI : ∀ {X : HL} {w : Value} {l : List Nat}, Sl X 1 w (nodes l) → Sl X 1 w (ints (IL l)) := fun h => by rw [← nodesI]; exact h
  obtain ⟨on, rfl⟩ : ∃ k : Nat, one = k := ⟨one.toNat, by omega⟩
  obtain ⟨mn, rfl⟩ : ∃ k : Nat, many = k := ⟨many.toNat, by omega⟩
  obtain ⟨rn, rfl⟩ : ∃ k : Nat, more = k := ⟨more.toNat, by omega⟩
  repeat' (first | refine zP ?_ | refine zA ?_ | (refine zM ?_; intro _ _) | refine zX ?_ | (refine zC ?_; intro _ _ _ _) | (refine zS ?_; intro _ _) | (apply Ws <;> intro hg))
  refine WR.call (by first | exact gN | exact gS rfl) rfl rfl (Honest_fs hH2 (hI hS) (by simp; omega)) ?_
  rintro _ H3 ⟨rfl, n3, hn3, hH3⟩
  rw [if_pos hE0, hE0, cast_toNat, Int.toNat_natCast]
  clear hH2
  repeat' (first | refine zP ?_ | refine zA ?_ | (refine zM ?_; intro _ _) | refine zX ?_ | (refine zC ?_; intro _ _ _ _) | (refine zS ?_; intro _ _) | (apply Ws <;> intro hg))
  refine WR.call (by first | exact gN | exact gS rfl) rfl rfl (Forged_fs hH3 hS hl8 hN1 hN6 hnb) ?_
  rintro _ H4 ⟨r1, u1, M1, n4, rfl, hr1, hO1, hn4, hH4⟩
  have hU1 := hO1.sl T
  have hS4 := hS.mono (M' := M1 ++ T) fun p hp => List.mem_append_right _ hp
  clear hH3 hO1 hS
  generalize M1 ++ T = U at hH4 hU1 hS4
  have hr1l : r1.length ≤ 8 := by obtain ⟨s, _, _, rfl, _⟩ := hr1; exact Nat.le_trans (bits_len _ _) hl8
  repeat' (first | refine zP ?_ | refine zA ?_ | (refine zM ?_; intro _ _) | refine zX ?_ | (refine zC ?_; intro _ _ _ _) | (refine zS ?_; intro _ _) | (apply Ws <;> intro hg))
  refine WR.op (by first | exact gN | exact gS rfl) rfl (OpV.conv u8k i64k rfl (c := (rn : Int)) (IntWalk.i64_in _ (by omega))) ?_
  repeat' (first | refine zP ?_ | refine zA ?_ | (refine zM ?_; intro _ _) | refine zX ?_ | (refine zC ?_; intro _ _ _ _) | (refine zS ?_; intro _ _) | (apply Ws <;> intro hg))
  refine WR.op (by first | exact gN | exact gS rfl) rfl (OpV.shl1 rfl rfl (by show N ≤ 64; omega) (pow_lt_63 (by omega))) ?_
  have hNp : 0 < 2 ^ N := Nat.two_pow_pos N
  have hxm := Nat.mod_lt rn hNp
  repeat' (first | refine zP ?_ | refine zA ?_ | (refine zM ?_; intro _ _) | refine zX ?_ | (refine zC ?_; intro _ _ _ _) | (refine zS ?_; intro _ _) | (apply Ws <;> intro hg))
  rw [show (rn : Int) % ((2 ^ N : Nat) : Int) = ((rn % 2 ^ N : Nat) : Int) by simp]
  obtain ⟨x, hx⟩ : ∃ x, rn % 2 ^ N = x := ⟨_, rfl⟩
  rw [hx] at hxm ⊢
  refine WR.call (by first | exact gN | exact gS rfl) rfl rfl (Clone_fs hH4 hS4 hv0 (by omega)) ?_
  rintro w5 H5 ⟨M5, n5, hO5, _, hn5, hH5⟩
  refine WR.append1F [] M5 U rfl rfl rfl rfl hO5 hH5 (new := [.int .i64 (x : Int)]) (by rfl) rfl rfl (Nat.le_refl _) (by omega) (by simp; omega) fun w6 M6 n6 H6 hO6 hH6 hn6 => ?_
  replace hH6 : hasH (M6 ++ U) n6 H6 := hH6
  have hS6 := hO6.sl U
  rw [IL_snoc] at hS6
  have hnx : ∀ y ∈ ns ++ [x], y < 2 ^ N := fun y hy => by
    rcases List.mem_append.1 hy with h | h
    · exact hnb y h
    · rw [List.mem_singleton.1 h]; exact hxm
  refine WR.call (by first | exact gN | exact gS rfl) rfl rfl (Forged_fs hH6 hS6 (by simp; omega) hN1 hN6 hnx) ?_
  rintro _ H7 ⟨r2, u2, M7, n7, rfl, hr2, hO7, hn7, hH7⟩
  rw [List.length_append, List.length_singleton] at hr2
  obtain ⟨hf1, hf2⟩ := forged_more hr1 hr2
  have hU2 := hO7.sl (M6 ++ U)
  replace hU1 := hU1.mono (M' := M7 ++ (M6 ++ U)) fun p hp => List.mem_append_right _ (List.mem_append_right _ hp)
  replace hS4 := hS4.mono (M' := M7 ++ (M6 ++ U)) fun p hp => List.mem_append_right _ (List.mem_append_right _ hp)
  clear hH4 hH5 hO5 hH6 hO6 hS6 hO7
  generalize M7 ++ (M6 ++ U) = V at hH7 hU2 hU1 hS4
  have hnil : honB N ns = decide ((r1.length : Int) = 0) := by
    have e1 := hr1.nil
    rw [forgP, leave_zero] at e1
    rw [Bool.eq_iff_iff, decide_eq_true_eq, ← e1]
    constructor
    · intro h; rw [h]; rfl
    · intro h; exact List.length_eq_zero_iff.1 (by omega)
  repeat' (first | refine zP ?_ | refine zA ?_ | (refine zM ?_; intro _ _) | refine zX ?_ | (refine zC ?_; intro _ _ _ _) | (refine zS ?_; intro _ _) | refine zO ?_ | (apply Ws <;> intro hg))
  refine WR.op (by first | exact gN | exact gS rfl) rfl (OpV.neB (nq4 _ _) rfl rfl) ?_
  rw [← hnil, bne_self_eq_false]
  by_cases h0 : ns.length = 0
  · repeat' (first | refine zP ?_ | refine zA ?_ | (refine zM ?_; intro _ _) | refine zX ?_ | (refine zC ?_; intro _ _ _ _) | (refine zS ?_; intro _ _) | refine zO ?_ | (apply Ws <;> intro hg))
    refine WR.call (by first | exact gN | exact gS rfl) rfl rfl (FS.works (C := C) (R := fun v H' => v = .bool true) rfl) ?_
    rintro _ _ rfl
    repeat' (first | refine zP ?_ | refine zA ?_ | (refine zM ?_; intro _ _) | refine zX ?_ | (refine zC ?_; intro _ _ _ _) | (refine zS ?_; intro _ _) | (apply Ws <;> intro hg))
    exact Ends.ret1 rfl rfl
  cases hh : honB N ns with
  | false =>
    repeat' (first | refine zP ?_ | refine zA ?_ | (refine zM ?_; intro _ _) | refine zX ?_ | (refine zC ?_; intro _ _ _ _) | (refine zS ?_; intro _ _) | refine zO ?_ | (apply Ws <;> intro hg))
    refine WR.call (by first | exact gN | exact gS rfl) rfl rfl (FS.works (C := C) (R := fun v H' => v = .bool true) rfl) ?_
    rintro _ _ rfl
    repeat' (first | refine zP ?_ | refine zA ?_ | (refine zM ?_; intro _ _) | refine zX ?_ | (refine zC ?_; intro _ _ _ _) | (refine zS ?_; intro _ _) | (apply Ws <;> intro hg))
    exact Ends.ret1 rfl rfl
  | true =>
  have hne : ns ≠ [] := fun h => h0 (by rw [h]; rfl)
  repeat' (first | refine zP ?_ | refine zA ?_ | (refine zM ?_; intro _ _) | refine zX ?_ | (refine zC ?_; intro _ _ _ _) | (refine zS ?_; intro _ _) | refine zO ?_ | (apply Ws <;> intro hg))
  refine WR.op (by first | exact gN | exact gS rfl) rfl (OpV.conv u8k i64k rfl (c := (on : Int)) (IntWalk.i64_in _ (by omega))) ?_
  have him := Nat.mod_lt on (show 0 < ns.length by omega)
  repeat' (first | refine zP ?_ | refine zA ?_ | (refine zM ?_; intro _ _) | refine zX ?_ | (refine zC ?_; intro _ _ _ _) | (refine zS ?_; intro _ _) | refine zO ?_ | (apply Ws <;> intro hg))
  rw [show (on : Int) % (ns.length : Int) = ((on % ns.length : Nat) : Int) by simp]
  obtain ⟨i, hi⟩ : ∃ x, on % ns.length = x := ⟨_, rfl⟩
  rw [hi] at him ⊢
  repeat' (first | refine zP ?_ | refine zA ?_ | (refine zM ?_; intro _ _) | refine zX ?_ | (refine zC ?_; intro _ _ _ _) | (refine zS ?_; intro _ _) | (apply Ws <;> intro hg))
  refine WR.call (by first | exact gN | exact gS rfl) rfl rfl (Path_fs hH7 hS4 hl8 hN1 hN6 hnb (i : Int)) ?_
  rintro _ H8 ⟨l, u8, f8, M8, n8, rfl, hr8, hlN, hO8, hn8, hH8⟩
  rw [PthR, if_neg (by omega), if_neg (by rw [hh]; decide), Int.toNat_natCast] at hr8
  obtain ⟨rfl, o, ho, hp⟩ := hr8
  have hci := getD_mem (a := 0) him
  have hltN := path_lt hp
  have hU8 := hO8.sl V
  have hS8 := hS4.mono (M' := M8 ++ V) fun p hp => List.mem_append_right _ hp
  clear hH7 hO8 hS4 hU1 hU2
  generalize M8 ++ V = W at hH8 hU8 hS8
  repeat' (first | refine zP ?_ | refine zA ?_ | (refine zM ?_; intro _ _) | refine zX ?_ | (refine zC ?_; intro _ _ _ _) | (refine zS ?_; intro _ _) | refine zO ?_ | (apply Ws <;> intro hg))
  refine WR.op (by first | exact gN | exact gS rfl) rfl (OpV.conv u8k i64k rfl (c := (mn : Int)) (IntWalk.i64_in _ (by omega))) ?_
  repeat' (first | refine zP ?_ | refine zA ?_ | (refine zM ?_; intro _ _) | refine zX ?_ | (refine zC ?_; intro _ _ _ _) | (refine zS ?_; intro _ _) | (apply Ws <;> intro hg))
  rw [show (mn : Int) % ((l.length : Int) + 1) = ((mn % (l.length + 1) : Nat) : Int) by simp]
  have hkm := Nat.mod_lt mn (show 0 < l.length + 1 by omega)
  obtain ⟨k, hk⟩ : ∃ x, mn % (l.length + 1) = x := ⟨_, rfl⟩
  rw [hk] at hkm ⊢
  refine WR.cutHi (by first | exact gN | exact gS rfl) rfl rfl (hI hU8) rfl (by simp; omega) fun w9 hW9 => ?_
  have hW : Sl W 1 w9 (nodes (l.take k)) := by rw [nodesI, List.map_take]; exact hW9
  clear hW9
  have htl : (l.take k).length = k := by rw [List.length_take]; omega
  repeat' (first | refine zP ?_ | refine zA ?_ | (refine zM ?_; intro _ _) | refine zX ?_ | (refine zC ?_; intro _ _ _ _) | (refine zS ?_; intro _ _) | (apply Ws <;> intro hg))
  rw [htl]
  refine WC.loopX [(9, _), (10, _), (17, _), (122, _), (123, _)] (fun s : Nat => [(19, .int .i64 (maskN ((l.take k).take s) : Int)), (124, .int .i64 (s : Int))]) [] (fun s H' => H' = H8 ∧ s ≤ k) (fun s => k - s) 0 (by repeat' (first | exact .nil | refine .cons rfl ?_)) rfl ⟨rfl, Nat.zero_le _⟩ ?_
  rintro s _ ⟨rfl, hs⟩
  dsimp only [List.cons_append, List.nil_append]
  repeat' (first | refine zP ?_ | refine zA ?_ | (refine zM ?_; intro _ _) | refine zX ?_ | (refine zC ?_; intro _ _ _ _) | (refine zS ?_; intro _ _) | (apply Ws <;> intro hg))
  refine WC.condP rfl (fun hlt => ?_) (fun hlt => ?_)
  · have hs' : s < k := by omega
    have hsl : s < (l.take k).length := by omega
    have hxN := hltN _ (List.mem_of_mem_take (getD_mem (a := 0) hsl))
    have hmt := mask_take' hsl
    have hmk : maskN ((l.take k).take s) < 2 ^ 62 := Nat.lt_of_lt_of_le (mask_lt (k := N) fun x hx => hltN x (List.mem_of_mem_take (List.mem_of_mem_take hx))) (Nat.pow_le_pow_right (by omega) (by omega))
    repeat' (first | refine zP ?_ | refine zA ?_ | (refine zM ?_; intro _ _) | refine zX ?_ | (refine zC ?_; intro _ _ _ _) | (refine zS ?_; intro _ _) | refine zO ?_ | (apply Ws <;> intro hg))
    obtain ⟨y, hy⟩ : ∃ x, (l.take k).getD s 0 = x := ⟨_, rfl⟩
    rw [hy] at hxN hmt ⊢
    refine WR.op (by first | exact gN | exact gS rfl) rfl (OpV.shl1 rfl rfl (by show y ≤ 64; omega) (pow_lt_63 (by omega))) ?_
    refine WR.op (by first | exact gN | exact gS rfl) rfl (OpV.orN rfl rfl (by show _ < 2 ^ 63; omega) (by show 2 ^ y < 2 ^ 63; exact pow_lt_63 (by omega))) ?_
    repeat' (first | refine zP ?_ | refine zA ?_ | (refine zM ?_; intro _ _) | refine zX ?_ | (refine zC ?_; intro _ _ _ _) | (refine zS ?_; intro _ _) | (apply Ws <;> intro hg))
    refine Ends.loop (s + 1) (by omega) (.cons ?_ (by repeat' (first | exact .nil | refine .cons rfl ?_))) rfl ⟨rfl, hs'⟩
    rw [hmt]; rfl
  have hks : k = s := by omega
  subst hks
  rw [show (l.take k).take k = l.take k by rw [List.take_take, Nat.min_self]]
  have hhon := hon_path (k := k) hN6 hl8 hh ho hnb hci hp
  have hcb : maskN (l.take k) < 2 ^ N := mask_lt fun x hx => hltN x (List.mem_of_mem_take hx)
  obtain ⟨z, hz⟩ : ∃ z, maskN (l.take k) = z := ⟨_, rfl⟩
  rw [hz] at hhon hcb ⊢
  clear hW hU8
  repeat' (first | refine zP ?_ | refine zA ?_ | (refine zM ?_; intro _ _) | refine zX ?_ | (refine zC ?_; intro _ _ _ _) | (refine zS ?_; intro _ _) | (apply Ws <;> intro hg))
  refine WR.call (by first | exact gN | exact gS rfl) rfl rfl (Clone_fs hH8 hS8 hv0 (by omega)) ?_
  rintro w10 H10 ⟨M10, n10, hO10, _, hn10, hH10⟩
  repeat' (first | refine zP ?_ | refine zA ?_ | (refine zM ?_; intro _ _) | refine zX ?_ | (refine zC ?_; intro _ _ _ _) | (refine zS ?_; intro _ _) | (apply Ws <;> intro hg))
  refine WR.append1F [] M10 W rfl rfl rfl rfl hO10 hH10 (new := [.int .i64 (z : Int)]) (by rfl) rfl rfl (Nat.le_refl _) (by omega) (by simp; omega) fun w11 M11 n11 H11 hO11 hH11 hn11 => ?_
  replace hH11 : hasH (M11 ++ W) n11 H11 := hH11
  have hS11 := hO11.sl W
  rw [IL_snoc] at hS11
  have hnz : ∀ y ∈ ns ++ [z], y < 2 ^ N := fun y hy => by
    rcases List.mem_append.1 hy with h | h
    · exact hnb y h
    · rw [List.mem_singleton.1 h]; exact hcb
  have hE1 := casts_intro hN1 hN6 (show (ns ++ [z]).length ≤ 8 by simp; omega) hnz
  refine WR.call (by first | exact gN | exact gS rfl) rfl rfl (Honest_fs hH11 (hI hS11) (by simp; omega)) ?_
  rintro _ H12 ⟨rfl, n12, hn12, hH12⟩
  rw [if_pos hE1, hE1, cast_toNat, Int.toNat_natCast, hhon]
  have hS12 := hS8.mono (M' := M11 ++ W) fun p hp => List.mem_append_right _ hp
  clear hH8 hH10 hO10 hH11 hO11 hS11 hS8
  generalize M11 ++ W = X at hH12 hS12
  repeat' (first | refine zP ?_ | refine zA ?_ | (refine zM ?_; intro _ _) | refine zX ?_ | (refine zC ?_; intro _ _ _ _) | (refine zS ?_; intro _ _) | (apply Ws <;> intro hg))
  refine WR.call (by first | exact gN | exact gS rfl) rfl rfl (Clone_fs hH12 hS12 hv0 (by omega)) ?_
  rintro w13 H13 ⟨M13, n13, hO13, hcl, hn13, hH13⟩
  obtain ⟨b13, rfl, rfl⟩ := hcl hne
  rw [nodesI] at hH13
  repeat' (first | refine zP ?_ | refine zA ?_ | (refine zM ?_; intro _ _) | refine zX ?_ | (refine zC ?_; intro _ _ _ _) | (refine zS ?_; intro _ _) | (apply Ws <;> intro hg))
  rw [show (i : Int) + 1 = ((i + 1 : Nat) : Int) by omega]
  refine WR.call (by first | exact gN | exact gS rfl) rfl rfl (Delete_fs hH13 (R := ns.length) (.inl ⟨rfl, rfl⟩) (by simp) (show i < i + 1 by omega) (by omega) (by simp; omega)) ?_
  rintro _ H14 ⟨zs, rfl, hH14, hzl, hzt⟩
  rw [show ns.length - (i + 1 - i) = ns.length - 1 by omega] at hzt ⊢
  rw [List.length_map] at hzl
  have hzn : zs.take (ns.length - 1) = IL (ns.take i ++ ns.drop (i + 1)) := by
    have e : (ns.map fun (x : Nat) => (x : Int)).take ns.length = ns.map fun (x : Nat) => (x : Int) := List.take_of_length_le (by simp)
    rw [hzt, e]
    show _ = (ns.take i ++ ns.drop (i + 1)).map (fun (x : Nat) => (x : Int))
    rw [List.map_append, List.map_take, List.map_drop]
  have hS14 : Sl ((b13, .row 3 0 0 (ints zs)) :: X) 1 (.slice (some ⟨b13, 0, some 0⟩) (ns.length - 1) (roomCode 1 ns.length)) (ints (IL (ns.take i ++ ns.drop (i + 1)))) := by
    rw [← hzn]
    exact .row (lo := 0) (cs := ints zs) (.head _) (.row _ _ _ _) (Nat.le_refl _) (by simp; omega) (by simp [List.map_take]) (by simp; omega) (.inl (.inr ⟨ns.length, rfl, by omega⟩))
  have hsb : ∀ y ∈ ns.take i ++ ns.drop (i + 1), y ∈ ns := fun y hy => by
    rcases List.mem_append.1 hy with h | h
    · exact List.mem_of_mem_take h
    · exact List.mem_of_mem_drop h
  have hE2 := casts_intro hN1 hN6 (show (ns.take i ++ ns.drop (i + 1)).length ≤ 8 by simp; omega) (fun y hy => hnb y (hsb y hy))
  refine WR.call (by first | exact gN | exact gS rfl) rfl rfl (Honest_fs hH14 hS14 (by simp; omega)) ?_
  rintro _ H15 ⟨rfl, n15, hn15, hH15⟩
  rw [if_pos hE2, hE2, cast_toNat, Int.toNat_natCast, hon_sub hh hsb]
  repeat' (first | refine zP ?_ | refine zA ?_ | (refine zM ?_; intro _ _) | refine zX ?_ | (refine zC ?_; intro _ _ _ _) | (refine zS ?_; intro _ _) | refine zO ?_ | (apply Ws <;> intro hg))
  refine WR.call (by first | exact gN | exact gS rfl) rfl rfl (FS.works (C := C) (R := fun v H' => v = .bool true) rfl) ?_
  rintro _ _ rfl
  repeat' (first | refine zP ?_ | refine zA ?_ | (refine zM ?_; intro _ _) | refine zX ?_ | (refine zC ?_; intro _ _ _ _) | (refine zS ?_; intro _ _) | (apply Ws <;> intro hg))
  exact Ends.ret1 rfl rfl
end
end Go.Proofs.Ytblopbimchkneaa.Md
