import Derived.Test.YtblopbimchkneaaJ2
namespace Go.Proofs.Ytblopbimchkneaa.Md
open Go Go.Abs Go.Mth
set_option linter.unusedVariables false
set_option linter.unusedSimpArgs false
attribute [local irreducible] gOK WS WC WR WD Ends FS YS OpV seqK blockK loopK midK retK rdK asgK rangeEnd sat Cell
section
variable {M : HL} {n0 : Nat} {H : Heap} {v w : Value} {ns : List Nat}
theorem leftC_fs (hH : hasH M n0 H) (hS : Sl M 1 v (nodes ns)) (hl : ns.length ≤ 8) {N : Nat} (hN : N ≤ 6) (hb : ∀ x ∈ ns, x < 2 ^ N) {s b3 b4 : Nat} (hs : s < 2 ^ ns.length)
    (h3 : (b3, Ch.row 3 0 0 [.int .i64 (N : Int)]) ∈ M) (h4 : (b4, Ch.row 22 0 0 [v]) ∈ M) :
    FS C 45 [.int .i64 (s : Int), .pointer (some ⟨b4, 0, some 0⟩), .pointer (some ⟨b3, 0, some 0⟩)] H (fun e H' => e = .bool (forgP N ns s) ∧ ∃ n', n0 ≤ n' ∧ hasH M n' H') := by
  have hs62 : s < 2 ^ 62 := Nat.lt_of_lt_of_le hs (Nat.pow_le_pow_right (by omega) (by omega))
  refine FS.intro (pf := pf45) rfl rfl rfl ?_
  repeat' (first | refine zP ?_ | refine zA ?_ | (refine zM ?_; intro _ _) | refine zX ?_ | (refine zC ?_; intro _ _ _ _) | (refine zS ?_; intro _ _) | (apply Ws <;> intro hg))
  refine WC.loopX [(0, _), (1, _), (2, _), (8, _), (9, _)] (fun s : NV => [(5, s.v), (10, .int .i64 (s.k : Int))]) []
    (fun z H' => z.k ≤ ns.length ∧ n0 ≤ z.n ∧ Own 3 1 z.v (nodes (leaveTo ns s z.k)) z.Mx ∧ hasH (z.Mx ++ M) z.n H') (fun z => ns.length - z.k) ⟨0, .slice none 0 0, [], [], n0⟩ (by repeat' (first | exact .nil | refine .cons rfl ?_)) rfl
    ⟨Nat.zero_le _, Nat.le_refl _, .nil, hH⟩ ?_
  clear hH
  rintro ⟨k, w, _, Mx, n1⟩ H1 ⟨hk, hn1, hO, hH1⟩
  simp only at hk hn1 hO hH1
  have hS1 := hS.mono (M' := Mx ++ M) fun p hp => List.mem_append_right _ hp
  have h3' := List.mem_append_right Mx h3
  dsimp only [List.cons_append, List.nil_append]
  repeat' (first | refine zP ?_ | refine zA ?_ | (refine zM ?_; intro _ _) | refine zX ?_ | (refine zC ?_; intro _ _ _ _) | (refine zS ?_; intro _ _) | (apply Ws <;> intro hg))
  refine WC.condP rfl (fun hlt => ?_) (fun hlt => ?_)
  · have hk' : k < ns.length := by omega
    repeat' (first | refine zP ?_ | refine zA ?_ | (refine zM ?_; intro _ _) | refine zX ?_ | (refine zC ?_; intro _ _ _ _) | (refine zS ?_; intro _ _) | (apply Ws <;> intro hg))
    refine WR.op (by first | exact gN | exact gS rfl) rfl (OpV.shrN rfl rfl (by show k ≤ 64; omega)) ?_
    refine WR.op (by first | exact gN | exact gS rfl) rfl (OpV.andN (b := 1) rfl rfl (by show s >>> k < 2 ^ 63; exact Nat.lt_of_le_of_lt (Nat.shiftRight_le s k) (by omega)) (by decide)) ?_
    rw [shr_one]
    repeat' (first | refine zP ?_ | refine zA ?_ | (refine zM ?_; intro _ _) | refine zX ?_ | (refine zC ?_; intro _ _ _ _) | (refine zS ?_; intro _ _) | (apply Ws <;> intro hg))
    rw [bit_eq0]
    cases hb : s.testBit k with
    | false =>
      repeat' (first | refine zP ?_ | refine zA ?_ | (refine zM ?_; intro _ _) | refine zX ?_ | (refine zC ?_; intro _ _ _ _) | (refine zS ?_; intro _ _) | (apply Ws <;> intro hg))
      refine WR.append1F [] Mx M rfl rfl rfl rfl hO hH1 (new := [.int .i64 ((ns.getD k 0 : Nat) : Int)]) (by rfl) rfl rfl (Nat.le_refl _) (by omega) (by have := leave_len ns s k; simp; omega) fun v3 M3 n3 H3 hO3 hH3 hn3 => ?_
      repeat' (first | refine zP ?_ | refine zA ?_ | (refine zM ?_; intro _ _) | refine zX ?_ | (refine zC ?_; intro _ _ _ _) | (refine zS ?_; intro _ _) | (apply Ws <;> intro hg))
      refine Ends.loop ⟨k + 1, v3, [], M3, n3⟩ (by show ns.length - (k + 1) < ns.length - k; omega) (by repeat' (first | exact .nil | refine .cons rfl ?_)) rfl ⟨hk', by simp only; omega, ?_, hH3⟩
      simp only
      rw [leave_yes hb]
      simpa [nodes] using hO3
    | true =>
      repeat' (first | refine zP ?_ | refine zA ?_ | (refine zM ?_; intro _ _) | refine zX ?_ | (refine zC ?_; intro _ _ _ _) | (refine zS ?_; intro _ _) | (apply Ws <;> intro hg))
      refine Ends.loop ⟨k + 1, w, [], Mx, n1⟩ (by show ns.length - (k + 1) < ns.length - k; omega) (by repeat' (first | exact .nil | refine .cons rfl ?_)) rfl ⟨hk', hn1, ?_, hH1⟩
      simp only
      rw [leave_no hb]; exact hO
  · have hkl : ns.length = k := by omega
    subst hkl
    repeat' (first | refine zP ?_ | refine zA ?_ | (refine zM ?_; intro _ _) | refine zX ?_ | (refine zC ?_; intro _ _ _ _) | (refine zS ?_; intro _ _) | (apply Ws <;> intro hg))
    refine WR.call (by first | exact gN | exact gS rfl) rfl rfl (lhonest_fs hH1 (hO.sl M) (by have := leave_len ns s ns.length; omega) (lt_62 hN fun x hx => hb x (leave_mem hx)) (by omega)) ?_
    rintro _ H2 ⟨rfl, n2, hn2, hH2⟩
    repeat' (first | refine zP ?_ | refine zA ?_ | (refine zM ?_; intro _ _) | refine zX ?_ | (refine zC ?_; intro _ _ _ _) | (refine zS ?_; intro _ _) | (apply Ws <;> intro hg))
    exact Ends.ret1 rfl ⟨rfl, n2, by omega, hH2.sub (List.sublist_append_right Mx M)⟩
theorem markC_fs (hH : hasH M n0 H) (hS : Sl M 1 v (nodes ns)) (hl : ns.length ≤ 8) {N : Nat} (hN : N ≤ 6) (hb : ∀ x ∈ ns, x < 2 ^ N) {s b3 b4 : Nat} (hs : s < 2 ^ N)
    (h3 : (b3, Ch.row 3 0 0 [.int .i64 (N : Int)]) ∈ M) (h4 : (b4, Ch.row 22 0 0 [v]) ∈ M) :
    FS C 46 [.int .i64 (s : Int), .pointer (some ⟨b4, 0, some 0⟩), .pointer (some ⟨b3, 0, some 0⟩)] H (fun e H' => e = .bool (wornP N ns s) ∧ ∃ n', n0 ≤ n' ∧ hasH M n' H') := by
  have hs62 : s < 2 ^ 62 := Nat.lt_of_lt_of_le hs (Nat.pow_le_pow_right (by omega) (by omega))
  have hb62 := lt_62 hN hb
  refine FS.intro (pf := pf46) rfl rfl rfl ?_
  repeat' (first | refine zP ?_ | refine zA ?_ | (refine zM ?_; intro _ _) | refine zX ?_ | (refine zC ?_; intro _ _ _ _) | (refine zS ?_; intro _ _) | (apply Ws <;> intro hg))
  refine WC.loopX [(0, _), (1, _), (2, _), (8, _), (9, _)] (fun s : NV => [(5, s.v), (10, .int .i64 (s.k : Int))]) []
    (fun z H' => z.k ≤ ns.length ∧ n0 ≤ z.n ∧ Own 3 1 z.v (nodes (wearL (ns.take z.k) s)) z.Mx ∧ hasH (z.Mx ++ M) z.n H') (fun z => ns.length - z.k) ⟨0, .slice none 0 0, [], [], n0⟩ (by repeat' (first | exact .nil | refine .cons rfl ?_)) rfl
    ⟨Nat.zero_le _, Nat.le_refl _, .nil, hH⟩ ?_
  clear hH
  rintro ⟨k, w, _, Mx, n1⟩ H1 ⟨hk, hn1, hO, hH1⟩
  simp only at hk hn1 hO hH1
  have hS1 := hS.mono (M' := Mx ++ M) fun p hp => List.mem_append_right _ hp
  have h3' := List.mem_append_right Mx h3
  dsimp only [List.cons_append, List.nil_append]
  repeat' (first | refine zP ?_ | refine zA ?_ | (refine zM ?_; intro _ _) | refine zX ?_ | (refine zC ?_; intro _ _ _ _) | (refine zS ?_; intro _ _) | (apply Ws <;> intro hg))
  refine WC.condP rfl (fun hlt => ?_) (fun hlt => ?_)
  · have hk' : k < ns.length := by omega
    have hx := hb62 _ (getD_mem (a := 0) hk')
    repeat' (first | refine zP ?_ | refine zA ?_ | (refine zM ?_; intro _ _) | refine zX ?_ | (refine zC ?_; intro _ _ _ _) | (refine zS ?_; intro _ _) | (apply Ws <;> intro hg))
    refine WR.op (by first | exact gN | exact gS rfl) rfl (OpV.andNotN rfl rfl (by show ns.getD k 0 < 2 ^ 63; omega) (by show s < 2 ^ 63; omega)) ?_
    refine WR.append1F [] Mx M rfl rfl rfl rfl hO hH1 (new := [.int .i64 ((ns.getD k 0 ^^^ (ns.getD k 0 &&& s) : Nat) : Int)]) (by rfl) rfl rfl (Nat.le_refl _) (by omega) (by simp [wearL]; omega) fun v3 M3 n3 H3 hO3 hH3 hn3 => ?_
    repeat' (first | refine zP ?_ | refine zA ?_ | (refine zM ?_; intro _ _) | refine zX ?_ | (refine zC ?_; intro _ _ _ _) | (refine zS ?_; intro _ _) | (apply Ws <;> intro hg))
    refine Ends.loop ⟨k + 1, v3, [], M3, n3⟩ (by show ns.length - (k + 1) < ns.length - k; omega) (by repeat' (first | exact .nil | refine .cons rfl ?_)) rfl ⟨hk', by simp only; omega, ?_, hH3⟩
    simp only
    rw [List.take_succ_eq_append_getElem hk', wearL, List.map_append, ← getD_eq (a := 0) hk']
    simpa [nodes, wearL] using hO3
  · have hkl : ns.length = k := by omega
    subst hkl
    rw [List.take_length] at hO
    repeat' (first | refine zP ?_ | refine zA ?_ | (refine zM ?_; intro _ _) | refine zX ?_ | (refine zC ?_; intro _ _ _ _) | (refine zS ?_; intro _ _) | (apply Ws <;> intro hg))
    refine WR.call (by first | exact gN | exact gS rfl) rfl rfl (lhonest_fs hH1 (hO.sl M) (by simp [wearL]; omega) (lt_62 hN (wear_lt hb)) (by omega)) ?_
    rintro _ H2 ⟨rfl, n2, hn2, hH2⟩
    repeat' (first | refine zP ?_ | refine zA ?_ | (refine zM ?_; intro _ _) | refine zX ?_ | (refine zC ?_; intro _ _ _ _) | (refine zS ?_; intro _ _) | (apply Ws <;> intro hg))
    exact Ends.ret1 rfl ⟨rfl, n2, by omega, hH2.sub (List.sublist_append_right Mx M)⟩

set_option maxHeartbeats 4000000 in
theorem MouldLeft_fs (hH : hasH M n0 H) {a b c : Int} {hs : List Int} (ha : 0 ≤ a ∧ a ≤ 255) (hb : 0 ≤ b ∧ b ≤ 255) (hc : 0 ≤ c ∧ c ≤ 255) (hl : hs.length = 14) (hu : ∀ x ∈ hs, 0 ≤ x ∧ x ≤ 255) :
    FS C 9 [.agg (trayV a b c hs).toArray] H (fun e H' => e = .bool true) := by
  have hone := tray_one a b c hs
  refine FS.intro (pf := pf9) rfl rfl rfl ?_
  repeat' (first | refine zP ?_ | refine zA ?_ | (refine zM ?_; intro _ _) | refine zX ?_ | (refine zC ?_; intro _ _ _ _) | (refine zS ?_; intro _ _))
  rename_i H1 hH1
  refine WR.op (by first | exact gN | exact gS rfl) rfl (OpV.loadAll (k := 17) rfl hH1 (.head _) (.row _ _ _ _) (by simp [trayV, hl])) ?_
  refine WR.call (by first | exact gN | exact gS rfl) rfl rfl (made_fs hH1.tail ha hb hc hl hu (most := 5) (many := 6) (by omega) (by omega)) ?_
  rintro _ H2 ⟨N, ns, v, Mx, n2, rfl, hN1, hN5, hnl, hnb, hO, hn2, hH2⟩
  clear hH1
  have hS := hO.sl M
  clear hO hone
  generalize Mx ++ M = T at hH2 hS
  have hN6 : N ≤ 6 := by omega
  have hl8 : ns.length ≤ 8 := by omega
  obtain ⟨av, cv, hv⟩ := hS.len
  rw [List.length_map] at hv
  subst hv
  repeat' (first | refine zP ?_ | refine zA ?_ | (refine zM ?_; intro _ _) | refine zX ?_ | (refine zC ?_; intro _ _ _ _) | (refine zS ?_; intro _ _) | (apply Ws <;> intro hg))
  rename_i Ha hHa Hb hHb Hc hHc Hd hHd
  clear hHa hHb hHc hH2
  have h3 : (n2, Ch.row 3 0 0 [.int .i64 (N : Int)]) ∈ (n2 + 1, Ch.row 22 0 0 [.slice av ns.length cv]) :: (n2, Ch.row 3 0 0 [.int .i64 (N : Int)]) :: T := .tail _ (.head _)
  have h4 : (n2 + 1, Ch.row 22 0 0 [.slice av ns.length cv]) ∈ (n2 + 1, Ch.row 22 0 0 [.slice av ns.length cv]) :: (n2, Ch.row 3 0 0 [.int .i64 (N : Int)]) :: T := .head _
  replace hS := (hS.cons (p := (n2, Ch.row 3 0 0 [.int .i64 (N : Int)]))).cons (p := (n2 + 1, Ch.row 22 0 0 [.slice av ns.length cv]))
  generalize (n2 + 1, Ch.row 22 0 0 [.slice av ns.length cv]) :: (n2, Ch.row 3 0 0 [.int .i64 (N : Int)]) :: T = U at hHd hS h3 h4
  refine WR.callV (by first | exact gN | exact gS rfl) rfl rfl rfl (least_fs (g := 45) (vb := [.pointer (some ⟨n2 + 1, 0, some 0⟩), .pointer (some ⟨n2, 0, some 0⟩)]) hHd hl8 (forg_all N ns) fun s M' n1 H1 hs hM hH1 => leftC_fs hH1 (hS.mono hM) hl8 hN6 hnb hs (hM _ h3) (hM _ h4)) ?_
  rintro u1 H3 ⟨r1, M1, n3, hr1, hO1, hn3, hH3⟩
  clear hHd
  have h33 := List.mem_append_right M1 h3
  have h43 := List.mem_append_right M1 h4
  have hS3 := hS.mono (M' := M1 ++ U) fun p hp => List.mem_append_right _ hp
  repeat' (first | refine zP ?_ | refine zA ?_ | (refine zM ?_; intro _ _) | refine zX ?_ | (refine zC ?_; intro _ _ _ _) | (refine zS ?_; intro _ _) | (apply Ws <;> intro hg))
  refine WR.callV (by first | exact gN | exact gS rfl) rfl rfl rfl (least_fs (g := 46) (vb := [.pointer (some ⟨n2 + 1, 0, some 0⟩), .pointer (some ⟨n2, 0, some 0⟩)]) hH3 (n := N) (by omega) (worn_all hnb) fun s M' n1 H1 hs hM hH1 => markC_fs hH1 (hS3.mono hM) hl8 hN6 hnb hs (hM _ h33) (hM _ h43)) ?_
  rintro u2 H4 ⟨r2, M2, n4, hr2, hO2, hn4, hH4⟩
  clear hH3
  have h34 := List.mem_append_right M2 h33
  have h44 := List.mem_append_right M2 h43
  have hS4 := hS3.mono (M' := M2 ++ (M1 ++ U)) fun p hp => List.mem_append_right _ hp
  repeat' (first | refine zP ?_ | refine zA ?_ | (refine zM ?_; intro _ _) | refine zX ?_ | (refine zC ?_; intro _ _ _ _) | (refine zS ?_; intro _ _) | (apply Ws <;> intro hg))
  refine WR.call (by first | exact gN | exact gS rfl) rfl rfl (Forged_fs hH4 hS4 hl8 hN1 hN6 hnb) ?_
  rintro _ H5 ⟨r3, u3, M3, n5, rfl, hr3, hO3, hn5, hH5⟩
  clear hH4
  have h35 := List.mem_append_right M3 h34
  have h45 := List.mem_append_right M3 h44
  have hS5 := hS4.mono (M' := M3 ++ (M2 ++ (M1 ++ U))) fun p hp => List.mem_append_right _ hp
  repeat' (first | refine zP ?_ | refine zA ?_ | (refine zM ?_; intro _ _) | refine zX ?_ | (refine zC ?_; intro _ _ _ _) | (refine zS ?_; intro _ _) | (apply Ws <;> intro hg))
  refine WR.call (by first | exact gN | exact gS rfl) rfl rfl (Worn_fs hH5 hS5 hl8 hN1 hN6 hnb) ?_
  rintro _ H6 ⟨r4, u4, M4, n6, rfl, hr4, hO4, hn6, hH6⟩
  clear hH5 hS5 hS4 hS3 hS h35 h45 h34 h44 h33 h43 h3 h4
  obtain rfl := hr1.unique hr3
  obtain rfl := hr2.unique hr4
  have hS1 := (hO1.sl U).mono (M' := M4 ++ (M3 ++ (M2 ++ (M1 ++ U)))) fun p hp => List.mem_append_right _ (List.mem_append_right _ (List.mem_append_right _ hp))
  have hS2 := (hO2.sl (M1 ++ U)).mono (M' := M4 ++ (M3 ++ (M2 ++ (M1 ++ U)))) fun p hp => List.mem_append_right _ (List.mem_append_right _ hp)
  have hS3 := (hO3.sl (M2 ++ (M1 ++ U))).mono (M' := M4 ++ (M3 ++ (M2 ++ (M1 ++ U)))) fun p hp => List.mem_append_right _ hp
  have hS4 := hO4.sl (M3 ++ (M2 ++ (M1 ++ U)))
  have hl1 : r1.length ≤ 8 := by obtain ⟨s, _, _, rfl, _⟩ := hr1; exact Nat.le_trans (bits_len _ _) hl8
  have hl2 : r2.length ≤ 8 := by obtain ⟨s, _, _, rfl, _⟩ := hr2; exact Nat.le_trans (bits_len _ _) (by omega)
  have hnil : decide ((r1.length : Int) = 0) = decide ((r2.length : Int) = 0) := by
    have e1 := hr1.nil
    have e2 := hr2.nil
    rw [forgP, leave_zero] at e1
    rw [wornP, wear_zero] at e2
    rw [decide_eq_decide]
    constructor
    · intro h; have := e2.2 (e1.1 (List.length_eq_zero_iff.1 (by omega))); rw [this]; rfl
    · intro h; have := e1.2 (e2.1 (List.length_eq_zero_iff.1 (by omega))); rw [this]; rfl
  repeat' (first | refine zP ?_ | refine zA ?_ | (refine zM ?_; intro _ _) | refine zX ?_ | (refine zC ?_; intro _ _ _ _) | (refine zS ?_; intro _ _) | refine zO ?_ | (apply Ws <;> intro hg))
  refine WR.call (by first | exact gN | exact gS rfl) rfl rfl (same_fs hH6 hS3 hS1 (by omega) (by omega)) ?_
  rintro _ H7 ⟨rfl, rfl⟩
  rw [decide_eq_true rfl]
  repeat' (first | refine zP ?_ | refine zA ?_ | (refine zM ?_; intro _ _) | refine zX ?_ | (refine zC ?_; intro _ _ _ _) | (refine zS ?_; intro _ _) | refine zO ?_ | (apply Ws <;> intro hg))
  refine WR.call (by first | exact gN | exact gS rfl) rfl rfl (same_fs hH6 hS4 hS2 (by omega) (by omega)) ?_
  rintro _ H8 ⟨rfl, rfl⟩
  rw [decide_eq_true rfl]
  repeat' (first | refine zP ?_ | refine zA ?_ | (refine zM ?_; intro _ _) | refine zX ?_ | (refine zC ?_; intro _ _ _ _) | (refine zS ?_; intro _ _) | refine zO ?_ | (apply Ws <;> intro hg))
  refine WR.op (by first | exact gN | exact gS rfl) rfl (OpV.eqB (eqlB _ _) rfl rfl) ?_
  rw [hnil, beq_self_eq_true]
  repeat' (first | refine zP ?_ | refine zA ?_ | (refine zM ?_; intro _ _) | refine zX ?_ | (refine zC ?_; intro _ _ _ _) | (refine zS ?_; intro _ _) | (apply Ws <;> intro hg))
  refine WR.call (by first | exact gN | exact gS rfl) rfl rfl (FS.works (C := C) (R := fun v H' => v = .bool true) rfl) ?_
  rintro _ _ rfl
  repeat' (first | refine zP ?_ | refine zA ?_ | (refine zM ?_; intro _ _) | refine zX ?_ | (refine zC ?_; intro _ _ _ _) | (refine zS ?_; intro _ _) | (apply Ws <;> intro hg))
  exact Ends.ret1 rfl rfl
end
end Go.Proofs.Ytblopbimchkneaa.Md
