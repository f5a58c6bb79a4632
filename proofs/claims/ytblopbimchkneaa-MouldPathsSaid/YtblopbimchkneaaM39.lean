import Derived.Test.YtblopbimchkneaaJ3
import Derived.Test.YtblopbimchkneaaJ2
namespace Go.Proofs.Ytblopbimchkneaa.Md
open Go Go.Abs Go.Mth
set_option linter.unusedVariables false
set_option linter.unusedSimpArgs false
structure PQ where
  k : Nat
  v : Value
  vs : List Value
  ls : List (List Nat)
  Mo : HL
  Mi : HL
  n : Nat
theorem natMin (a b : Nat) : min (a : Int) (b : Int) = ((min a b : Nat) : Int) := by omega
attribute [local irreducible] gOK WS WC WR WD Ends FS YS OpV seqK blockK loopK midK retK rdK asgK rangeEnd sat Cell
section
variable {M : HL} {n0 : Nat} {H : Heap} {v : Value} {ns : List Nat}
set_option maxHeartbeats 8000000 in
theorem MouldPaths_fs (hH : hasH M n0 H) {a b c : Int} {hs : List Int} (ha : 0 ≤ a ∧ a ≤ 255) (hb : 0 ≤ b ∧ b ≤ 255) (hc : 0 ≤ c ∧ c ≤ 255) (hl : hs.length = 14) (hu : ∀ x ∈ hs, 0 ≤ x ∧ x ≤ 255) :
    FS C 8 [.agg (trayV a b c hs).toArray] H (fun e H' => e = .bool true) := by
  have hone := tray_one a b c hs
  refine FS.intro (pf := pf8) rfl rfl rfl ?_
  repeat' (first | refine zP ?_ | refine zA ?_ | (refine zM ?_; intro _ _) | refine zX ?_ | (refine zC ?_; intro _ _ _ _) | (refine zS ?_; intro _ _))
  rename_i H1 hH1
  refine WR.op (by first | exact gN | exact gS rfl) rfl (OpV.loadAll (k := 17) rfl hH1 (.head _) (.row _ _ _ _) (by simp [trayV, hl])) ?_
  refine WR.call (by first | exact gN | exact gS rfl) rfl rfl (made_fs hH1.tail ha hb hc hl hu (most := 6) (many := 8) (by omega) (by omega)) ?_
  rintro _ H2 ⟨N, ns, v, Mx, n2, rfl, hN1, hN6, hl8, hnb, hO, hn2, hH2⟩
  clear hH1
  have hS := hO.sl M
  clear hO hone
  generalize Mx ++ M = T at hH2 hS
  have hb62 := lt_62 hN6 hnb
  repeat' (first | refine zP ?_ | refine zA ?_ | (refine zM ?_; intro _ _) | refine zX ?_ | (refine zC ?_; intro _ _ _ _) | (refine zS ?_; intro _ _) | (apply Ws <;> intro hg))
  refine WR.call (by first | exact gN | exact gS rfl) rfl rfl (Origin_fs hH2 hS hl8 hN1 hN6 hnb) ?_
  rintro _ H3 ⟨o, u, Mo0, n3, rfl, ho, hO, hn3, hH3⟩
  clear hH2
  have hU := hO.sl T
  have hS3 := hS.mono (M' := Mo0 ++ T) fun p hp => List.mem_append_right _ hp
  clear hO hS
  generalize Mo0 ++ T = U at hH3 hU hS3
  repeat' (first | refine zP ?_ | refine zA ?_ | (refine zM ?_; intro _ _) | refine zX ?_ | (refine zC ?_; intro _ _ _ _) | (refine zS ?_; intro _ _) | (apply Ws <;> intro hg))
  refine WR.call (by first | exact gN | exact gS rfl) rfl rfl (lhonest_fs hH3 hS3 (by omega) hb62 (by omega)) ?_
  rintro _ H4 ⟨rfl, n4, hn4, hH4⟩
  clear hH3
  cases hh : honB N ns with
  | false =>
    rw [if_neg (by decide)]
    repeat' (first | refine zP ?_ | refine zA ?_ | (refine zM ?_; intro _ _) | refine zX ?_ | (refine zC ?_; intro _ _ _ _) | (refine zS ?_; intro _ _) | (apply Ws <;> intro hg))
    refine WR.call (by first | exact gN | exact gS rfl) rfl rfl (Path_fs hH4 hS3 hl8 hN1 hN6 hnb 0) ?_
    rintro _ H5 ⟨l, u5, f, M5, n5, rfl, hr, _, _, hn5, hH5⟩
    have hS5 := hS3.mono (M' := M5 ++ U) fun p hp => List.mem_append_right _ hp
    unfold PthR at hr
    by_cases h0 : ns.length = 0
    · rw [if_pos (by omega)] at hr
      obtain ⟨rfl, rfl⟩ := hr
      repeat' (first | refine zP ?_ | refine zA ?_ | (refine zM ?_; intro _ _) | refine zX ?_ | (refine zC ?_; intro _ _ _ _) | (refine zS ?_; intro _ _) | refine zO ?_ | (apply Ws <;> intro hg))
      refine WR.call (by first | exact gN | exact gS rfl) rfl rfl (FS.works (C := C) (R := fun v H' => v = .bool true) rfl) ?_
      rintro _ _ rfl
      repeat' (first | refine zP ?_ | refine zA ?_ | (refine zM ?_; intro _ _) | refine zX ?_ | (refine zC ?_; intro _ _ _ _) | (refine zS ?_; intro _ _) | (apply Ws <;> intro hg))
      exact Ends.ret1 rfl rfl
    · rw [if_neg (by omega), if_pos hh] at hr
      obtain ⟨rfl, rfl⟩ := hr
      repeat' (first | refine zP ?_ | refine zA ?_ | (refine zM ?_; intro _ _) | refine zX ?_ | (refine zC ?_; intro _ _ _ _) | (refine zS ?_; intro _ _) | refine zO ?_ | (apply Ws <;> intro hg))
      refine WR.call (by first | exact gN | exact gS rfl) rfl rfl (FS.works (C := C) (R := fun v H' => v = .bool true) rfl) ?_
      rintro _ _ rfl
      repeat' (first | refine zP ?_ | refine zA ?_ | (refine zM ?_; intro _ _) | refine zX ?_ | (refine zC ?_; intro _ _ _ _) | (refine zS ?_; intro _ _) | (apply Ws <;> intro hg))
      exact Ends.ret1 rfl rfl
  | true =>
  rw [if_pos rfl]
  rw [OrgR, if_pos hh] at ho
  have hol := ho.1
  have hPth : ∀ {i : Nat} {l : List Nat} {f : Int}, i < ns.length → PthR N ns (i : Int) l f → f = 0 ∧ PathF N o (ns.getD i 0) (-1) l := fun {i l f} hi h => by
    rw [PthR, if_neg (by omega), if_neg (by rw [hh]; decide), Int.toNat_natCast] at h
    obtain ⟨h1, o', ho', h2⟩ := h
    obtain rfl := ho.unique ho'
    exact ⟨h1, h2⟩
  repeat' (first | refine zP ?_ | refine zA ?_ | (refine zM ?_; intro _ _) | refine zX ?_ | (refine zC ?_; intro _ _ _ _) | (refine zS ?_; intro _ _) | refine zO ?_ | (apply Ws <;> intro hg))
  -- the paths
  refine WC.loopX [(3, _), (4, _), (5, _), (74, _), (75, _)] (fun s : PQ => [(9, s.v), (76, .int .i64 (s.k : Int))]) []
    (fun z H' => z.k ≤ ns.length ∧ n4 ≤ z.n ∧ z.ls.length = z.k ∧ (∀ i, i < z.k → PathF N o (ns.getD i 0) (-1) (z.ls.getD i [])) ∧ RowsN (z.Mi ++ U) z.vs z.ls ∧ Own 22 1 z.v z.vs z.Mo ∧ hasH (z.Mo ++ (z.Mi ++ U)) z.n H') (fun z => ns.length - z.k) ⟨0, .slice none 0 0, [], [], [], [], n4⟩ (by repeat' (first | exact .nil | refine .cons rfl ?_)) rfl
    ⟨Nat.zero_le _, Nat.le_refl _, rfl, fun i h => absurd h (Nat.not_lt_zero _), ⟨rfl, fun i h => absurd h (Nat.not_lt_zero _)⟩, .nil, hH4⟩ ?_
  clear hH4
  rintro ⟨k, pv, vs, ls, Mo, Mi, n5⟩ H5 ⟨hk, hn5, hll, hPs, hR, hOv, hH5⟩
  simp only at hk hn5 hll hPs hR hOv hH5
  have hS5 := hS3.mono (M' := Mo ++ (Mi ++ U)) fun p hp => List.mem_append_right _ (List.mem_append_right _ hp)
  dsimp only [List.cons_append, List.nil_append]
  repeat' (first | refine zP ?_ | refine zA ?_ | (refine zM ?_; intro _ _) | refine zX ?_ | (refine zC ?_; intro _ _ _ _) | (refine zS ?_; intro _ _) | (apply Ws <;> intro hg))
  refine WC.condP rfl (fun hlt => ?_) (fun hlt => ?_)
  · have hk' : k < ns.length := by omega
    have hck := getD_mem (a := 0) hk'
    repeat' (first | refine zP ?_ | refine zA ?_ | (refine zM ?_; intro _ _) | refine zX ?_ | (refine zC ?_; intro _ _ _ _) | (refine zS ?_; intro _ _) | (apply Ws <;> intro hg))
    refine WR.call (by first | exact gN | exact gS rfl) rfl rfl (Path_fs hH5 hS5 hl8 hN1 hN6 hnb (k : Int)) ?_
    rintro _ H6 ⟨l, u6, f, Mp, n6, rfl, hr, hlN, hOl, hn6, hH6⟩
    obtain ⟨rfl, hp⟩ := hPth hk' hr
    clear hH5 hS5 hr
    have hSl := hOl.sl (Mi ++ U)
    have hSl6 := hOl.sl (Mo ++ (Mi ++ U))
    have hSlM0 : Unit → Sl ((Mp ++ Mi) ++ U) 1 u6 (nodes l) := fun _ => by rw [List.append_assoc]; exact hSl
    obtain ⟨al, cl, hul⟩ := hSl.len
    rw [List.length_map] at hul
    subst hul
    have hU6 := hU.mono (M' := Mp ++ (Mo ++ (Mi ++ U))) fun p hp => List.mem_append_right _ (List.mem_append_right _ (List.mem_append_right _ hp))
    have hlt6 := path_lt hp
    have hprev := path_prev hp
    have hmask := path_mask hN6 hl8 hh ho hnb hck hp
    clear hSl hOl
    repeat' (first | refine zP ?_ | refine zA ?_ | (refine zM ?_; intro _ _) | refine zX ?_ | (refine zC ?_; intro _ _ _ _) | (refine zS ?_; intro _ _) | (apply Ws <;> intro hg))
    refine WC.loopX [(3, _), (4, _), (5, _), (9, _), (10, _), (11, _), (12, _), (74, _), (75, _), (76, _), (90, _), (91, _)] (fun s : Nat => [(14, .int .i64 (if s = 0 then -1 else ((l.getD (s - 1) 0 : Nat) : Int))), (15, .int .i64 (maskN (l.take s) : Int)), (92, .int .i64 (s : Int))]) [] (fun s H' => H' = H6 ∧ s ≤ l.length) (fun s => l.length - s) 0 (by repeat' (first | exact .nil | refine .cons rfl ?_)) rfl ⟨rfl, Nat.zero_le _⟩ ?_
    rintro s H7 ⟨rfl, hs⟩
    dsimp only [List.cons_append, List.nil_append]
    repeat' (first | refine zP ?_ | refine zA ?_ | (refine zM ?_; intro _ _) | refine zX ?_ | (refine zC ?_; intro _ _ _ _) | (refine zS ?_; intro _ _) | (apply Ws <;> intro hg))
    refine WC.condP rfl (fun hlt2 => ?_) (fun hlt2 => ?_)
    · have hs' : s < l.length := by omega
      have hxN := hlt6 _ (getD_mem (a := 0) hs')
      have hxp := hprev s hs'
      have hmk : maskN (l.take s) < 2 ^ 62 := Nat.lt_of_lt_of_le (mask_lt (k := N) fun x hx => hlt6 x (List.mem_of_mem_take hx)) (Nat.pow_le_pow_right (by omega) (by omega))
      have hmt := mask_take hs'
      obtain ⟨q, hq⟩ : ∃ q : Int, (if s = 0 then (-1 : Int) else ((l.getD (s - 1) 0 : Nat) : Int)) = q := ⟨_, rfl⟩
      rw [hq] at hxp ⊢
      repeat' (first | refine zP ?_ | refine zA ?_ | (refine zM ?_; intro _ _) | refine zX ?_ | (refine zC ?_; intro _ _ _ _) | (refine zS ?_; intro _ _) | refine zO ?_ | (apply Ws <;> intro hg))
      obtain ⟨x, hx⟩ : ∃ x, l.getD s 0 = x := ⟨_, rfl⟩
      rw [hx] at hxN hxp hmt ⊢
      refine WR.op (by first | exact gN | exact gS rfl) rfl (OpV.shl1 rfl rfl (by show x ≤ 64; omega) (pow_lt_63 (by omega))) ?_
      refine WR.op (by first | exact gN | exact gS rfl) rfl (OpV.orN rfl rfl (by show _ < 2 ^ 63; omega) (by show 2 ^ x < 2 ^ 63; exact pow_lt_63 (by omega))) ?_
      repeat' (first | refine zP ?_ | refine zA ?_ | (refine zM ?_; intro _ _) | refine zX ?_ | (refine zC ?_; intro _ _ _ _) | (refine zS ?_; intro _ _) | (apply Ws <;> intro hg))
      refine Ends.loop (s + 1) (by omega) (.cons ?_ (.cons ?_ (by repeat' (first | exact .nil | refine .cons rfl ?_)))) rfl ⟨rfl, hs'⟩
      · rw [if_neg (by omega), Nat.add_sub_cancel, hx]; rfl
      · rw [hmt]; rfl
    · have hsl : l.length = s := by omega
      subst hsl
      rw [List.take_length, hmask]
      repeat' (first | refine zP ?_ | refine zA ?_ | (refine zM ?_; intro _ _) | refine zX ?_ | (refine zC ?_; intro _ _ _ _) | (refine zS ?_; intro _ _) | refine zO ?_ | (apply Ws <;> intro hg))
      refine WR.append1F [] Mo (Mp ++ (Mi ++ U)) rfl rfl rfl rfl hOv (hH6.perm (by classical exact List.perm_iff_count.2 (fun a => by simp only [List.nil_append, List.count_append]; omega))) (new := [.slice al l.length cl]) (by rfl) rfl rfl (Nat.le_refl _) (by omega) (by rw [hR.1, hll]; simp; omega) fun v8 M8 n8 H8 hO8 hH8 hn8 => ?_
      repeat' (first | refine zP ?_ | refine zA ?_ | (refine zM ?_; intro _ _) | refine zX ?_ | (refine zC ?_; intro _ _ _ _) | (refine zS ?_; intro _ _) | (apply Ws <;> intro hg))
      refine Ends.loop ⟨k + 1, v8, vs ++ [.slice al l.length cl], ls ++ [l], M8, Mp ++ Mi, n8⟩ (by show ns.length - (k + 1) < ns.length - k; omega) (by repeat' (first | exact .nil | refine .cons rfl ?_)) rfl ⟨hk', by simp only; omega, by simp [hll], fun i hi => ?_, ?_, by simpa using hO8, hH8.perm (by classical exact List.perm_iff_count.2 (fun a => by simp only [List.nil_append, List.count_append]; omega))⟩
      · replace hi : i < k + 1 := hi
        simp only
        rcases Nat.lt_or_ge i k with h | h
        · rw [getD_app_l (by omega)]; exact hPs i h
        · have : i = ls.length := by omega
          subst this
          rw [getD_snoc, hll]; exact hp
      · refine (hR.mono fun p hp => ?_).app ⟨rfl, fun i hi => ?_⟩
        · rcases List.mem_append.1 hp with h | h <;> simp [h]
        · have : i = 0 := by simp at hi; exact hi
          subst this
          exact hSlM0 ()
  have hkl : ns.length = k := by omega
  subst hkl
  have hvl : vs.length = ns.length := by rw [hR.1, hll]
  have hSv := hOv.sl (Mi ++ U)
  have hR5 := hR.mono (M' := Mo ++ (Mi ++ U)) fun p hp => List.mem_append_right _ hp
  clear hOv hR
  generalize Mo ++ (Mi ++ U) = V at hH5 hS5 hSv hR5
  clear hlt
  obtain ⟨ap, cp, hpv⟩ := hSv.len
  subst hpv
  repeat' (first | refine zP ?_ | refine zA ?_ | (refine zM ?_; intro _ _) | refine zX ?_ | (refine zC ?_; intro _ _ _ _) | (refine zS ?_; intro _ _) | (apply Ws <;> intro hg))
  refine WC.loopX [(3, _), (4, _), (9, _), (125, _), (126, _)] (fun s : Nat × Nat => [(127, .int .i64 (s.1 : Int))]) [] (fun s H' => s.1 ≤ ns.length ∧ n4 ≤ s.2 ∧ hasH V s.2 H') (fun s => ns.length - s.1) (0, n5) (by repeat' (first | exact .nil | refine .cons rfl ?_)) rfl ⟨Nat.zero_le _, hn5, hH5⟩ ?_
  clear hH5 hn5
  rintro ⟨i, n6⟩ H6 ⟨hi, hn6, hH6⟩
  simp only at hi hn6 hH6
  dsimp only [List.cons_append, List.nil_append]
  repeat' (first | refine zP ?_ | refine zA ?_ | (refine zM ?_; intro _ _) | refine zX ?_ | (refine zC ?_; intro _ _ _ _) | (refine zS ?_; intro _ _) | (apply Ws <;> intro hg))
  refine WC.condP rfl (fun hlt => ?_) (fun hlt => ?_)
  · have hi' : i < ns.length := by omega
    have hci := getD_mem (a := 0) hi'
    have hpi := hPs i hi'
    have hSi := hR5.2 i (by omega)
    have hmi := path_mask hN6 hl8 hh ho hnb hci hpi
    have hli : (ls.getD i []).length ≤ 6 := by
      have := nodup_le N _ (path_nodup ho hpi).2 (path_lt hpi)
      omega
    repeat' (first | refine zP ?_ | refine zA ?_ | (refine zM ?_; intro _ _) | refine zX ?_ | (refine zC ?_; intro _ _ _ _) | (refine zS ?_; intro _ _) | (apply Ws <;> intro hg))
    obtain ⟨ci, hcie⟩ : ∃ c, ns.getD i 0 = c := ⟨_, rfl⟩
    obtain ⟨li, hlie⟩ : ∃ c, ls.getD i [] = c := ⟨_, rfl⟩
    rw [hcie] at hci hpi hmi ⊢
    rw [hlie] at hpi hSi hmi hli
    refine WC.loopX [(3, _), (4, _), (9, _), (18, _), (19, _), (125, _), (126, _), (127, _), (132, _), (133, _)] (fun s : Nat × Nat => [(134, .int .i64 (s.1 : Int))]) [] (fun s H' => s.1 ≤ ns.length ∧ n4 ≤ s.2 ∧ hasH V s.2 H') (fun s => ns.length - s.1) (0, n6) (by repeat' (first | exact .nil | refine .cons rfl ?_)) rfl ⟨Nat.zero_le _, hn6, hH6⟩ ?_
    clear hH6 hn6
    rintro ⟨k, n7⟩ H7 ⟨hk, hn7, hH7⟩
    simp only at hk hn7 hH7
    dsimp only [List.cons_append, List.nil_append]
    repeat' (first | refine zP ?_ | refine zA ?_ | (refine zM ?_; intro _ _) | refine zX ?_ | (refine zC ?_; intro _ _ _ _) | (refine zS ?_; intro _ _) | (apply Ws <;> intro hg))
    refine WC.condP rfl (fun hlt2 => ?_) (fun hlt2 => ?_)
    · have hk' : k < ns.length := by omega
      have hck := getD_mem (a := 0) hk'
      have hpk := hPs k hk'
      have hSk := hR5.2 k (by omega)
      have hlk : (ls.getD k []).length ≤ 6 := by
        have := nodup_le N _ (path_nodup ho hpk).2 (path_lt hpk)
        omega
      have hbi := hb62 _ hci
      have hbk := hb62 _ hck
      have hsub := fun h => path_sub hl8 hh ho hci hck h hpi hpk
      repeat' (first | refine zP ?_ | refine zA ?_ | (refine zM ?_; intro _ _) | refine zX ?_ | (refine zC ?_; intro _ _ _ _) | (refine zS ?_; intro _ _) | (apply Ws <;> intro hg))
      refine WR.op (by first | exact gN | exact gS rfl) rfl (OpV.andN rfl rfl (by show ci < 2 ^ 63; omega) (by show ns.getD k 0 < 2 ^ 63; omega)) ?_
      obtain ⟨ck, hcke⟩ : ∃ c, ns.getD k 0 = c := ⟨_, rfl⟩
      obtain ⟨lk, hlke⟩ : ∃ c, ls.getD k [] = c := ⟨_, rfl⟩
      rw [hcke] at hck hpk hbk ⊢
      rw [hlke] at hpk hSk hlk
      simp only [hcke, hlke] at hsub
      have hLst : ∀ {q f : Int}, LstR N ns (i : Int) (k : Int) q f → f = 0 ∧ q = lastI (li.filter fun x => ck.testBit x) := fun {q f} h => by
        rw [LstR, if_neg (by omega), if_neg (by rw [hh]; decide), Int.toNat_natCast, Int.toNat_natCast, hcie, hcke] at h
        obtain ⟨g1, o', l', ho', g2, g3⟩ := h
        obtain rfl := ho.unique ho'
        have := g2.unique (path_common hl8 hh ho hci hck hpi)
        rw [this] at g3
        exact ⟨g1, g3⟩
      have hmf := mask_filter (d := ck) hmi
      have hpre := path_prefix ho hck hpi
      have hnd := (path_nodup ho hpi).2
      have hltN := path_lt hpi
      by_cases hcd : ci &&& ck = ci
      · have hsb := hsub hcd
        repeat' (first | refine zP ?_ | refine zA ?_ | (refine zM ?_; intro _ _) | refine zX ?_ | (refine zC ?_; intro _ _ _ _) | (refine zS ?_; intro _ _) | refine zO ?_ | (apply Ws <;> intro hg))
        rw [natMin]
        refine WR.cutHi (by first | exact gN | exact gS rfl) rfl rfl (xs := IL lk) (by rw [← nodesI]; exact hSk) rfl (by simp; omega) fun w hW => ?_
        have hW2 : Sl V 1 w (nodes (lk.take (min lk.length li.length))) := by
          rw [nodesI, List.map_take]; exact hW
        refine WR.call (by first | exact gN | exact gS rfl) rfl rfl (same_fs hH7 hSi hW2 (by omega) (by simp; omega)) ?_
        rintro _ H8 ⟨rfl, rfl⟩
        rw [decide_eq_true hsb]
        clear hW hW2
        repeat' (first | refine zP ?_ | refine zA ?_ | (refine zM ?_; intro _ _) | refine zX ?_ | (refine zC ?_; intro _ _ _ _) | (refine zS ?_; intro _ _) | (apply Ws <;> intro hg))
        refine WR.call (by first | exact gN | exact gS rfl) rfl rfl (Last_fs hH7 hS5 hl8 hN1 hN6 hnb (i : Int) (k : Int)) ?_
        rintro _ H9 ⟨q, f, rfl, hr, n9, hn9, hH9⟩
        obtain ⟨rfl, hq⟩ := hLst hr
        clear hH7 hr hLst
        obtain ⟨lf, hlf⟩ : ∃ c, (li.filter fun x => ck.testBit x) = c := ⟨_, rfl⟩
        rw [hlf] at hpre hmf hq
        have hfl : lf.length ≤ li.length := by rw [← hlf]; exact List.length_filter_le _ _
        have hql : -1 ≤ q ∧ q < N := by
          rcases Nat.eq_zero_or_pos lf.length with h0 | h0
          · rw [hq, List.length_eq_zero_iff.1 h0]; simp [lastI]; omega
          · have h1 := lastI_get h0
            have h2 : lf.getD (lf.length - 1) 0 < N := hltN _ (by have hx := getD_mem (l := lf) (a := 0) (show lf.length - 1 < lf.length by omega); rw [← hlf] at hx ⊢; exact (List.mem_filter.1 hx).1)
            rw [hq, h1]; omega
        repeat' (first | refine zP ?_ | refine zA ?_ | (refine zM ?_; intro _ _) | refine zX ?_ | (refine zC ?_; intro _ _ _ _) | (refine zS ?_; intro _ _) | (apply Ws <;> intro hg))
        refine WC.loopX [(3, _), (4, _), (9, _), (18, _), (19, _), (20, _), (21, _), (22, _), (23, _), (125, _), (126, _), (127, _), (132, _), (133, _), (134, _), (179, _), (180, _)] (fun s : Nat => [(24, .int .i64 (maskN (if lf.length = 0 then [] else li.take s) : Int)), (181, .int .i64 (s : Int))]) [] (fun s H' => H' = H9 ∧ s ≤ li.length ∧ (1 ≤ lf.length → s < lf.length)) (fun s => li.length - s) 0 (by
          refine .cons ?_ (by repeat' (first | exact .nil | refine .cons rfl ?_))
          have : maskN (if lf.length = 0 then [] else li.take 0) = 0 := by split <;> rfl
          rw [this]; rfl) rfl ⟨rfl, Nat.zero_le _, fun h => h⟩ ?_
        rintro s _ ⟨rfl, hs, hsf⟩
        dsimp only [List.cons_append, List.nil_append]
        repeat' (first | refine zP ?_ | refine zA ?_ | (refine zM ?_; intro _ _) | refine zX ?_ | (refine zC ?_; intro _ _ _ _) | (refine zS ?_; intro _ _) | (apply Ws <;> intro hg))
        refine WC.condP rfl (fun hlt3 => ?_) (fun hlt3 => ?_)
        · have hs' : s < li.length := by omega
          have hxN := hltN _ (getD_mem (a := 0) hs')
          by_cases h0 : lf.length = 0
          · have hq1 : q = -1 := by rw [hq, List.length_eq_zero_iff.1 h0]; rfl
            subst hq1
            repeat' (first | refine zP ?_ | refine zA ?_ | (refine zM ?_; intro _ _) | refine zX ?_ | (refine zC ?_; intro _ _ _ _) | (refine zS ?_; intro _ _) | refine zO ?_ | (apply Ws <;> intro hg))
            refine Ends.loop (s + 1) (by omega) (.cons ?_ (by repeat' (first | exact .nil | refine .cons rfl ?_))) rfl ⟨rfl, hs', fun h => by omega⟩
            rw [if_pos h0, if_pos h0]; rfl
          · have h1 : 1 ≤ lf.length := by omega
            have hsl := hsf h1
            have hlast := lastI_get h1
            have hqe : q = ((li.getD (lf.length - 1) 0 : Nat) : Int) := by
              rw [hq, hlast, hpre, getD_take (by rw [List.length_take]; omega), List.length_take, Nat.min_eq_left hfl]
            have hmt := mask_take hs'
            have hmk : maskN (li.take s) < 2 ^ 62 := Nat.lt_of_lt_of_le (mask_lt (k := N) fun x hx => hltN x (List.mem_of_mem_take hx)) (Nat.pow_le_pow_right (by omega) (by omega))
            rw [if_neg h0]
            have hq0 : 0 ≤ q := by omega
            obtain ⟨x, hx⟩ : ∃ x, li.getD s 0 = x := ⟨_, rfl⟩
            by_cases he : s + 1 = lf.length
            · have hxq : (x : Int) = q := by rw [hqe, ← hx, show lf.length - 1 = s by omega]
              rw [hx] at hxN hmt
              repeat' (first | refine zP ?_ | refine zA ?_ | (refine zM ?_; intro _ _) | refine zX ?_ | (refine zC ?_; intro _ _ _ _) | (refine zS ?_; intro _ _) | refine zO ?_ | (apply Ws <;> intro hg))
              rw [hx]
              refine WR.op (by first | exact gN | exact gS rfl) rfl (OpV.shl1 rfl rfl (by show x ≤ 64; omega) (pow_lt_63 (by omega))) ?_
              refine WR.op (by first | exact gN | exact gS rfl) rfl (OpV.orN rfl rfl (by show _ < 2 ^ 63; omega) (by show 2 ^ x < 2 ^ 63; exact pow_lt_63 (by omega))) ?_
              rw [← hmt, he, ← (show lf = li.take lf.length from hpre), hmf]
              repeat' (first | refine zP ?_ | refine zA ?_ | (refine zM ?_; intro _ _) | refine zX ?_ | (refine zC ?_; intro _ _ _ _) | (refine zS ?_; intro _ _) | refine zO ?_ | (apply Ws <;> intro hg))
              refine WR.op (by first | exact gN | exact gS rfl) rfl (OpV.andN rfl rfl (by show ci < 2 ^ 63; omega) (by show ck < 2 ^ 63; omega)) ?_
              repeat' (first | refine zP ?_ | refine zA ?_ | (refine zM ?_; intro _ _) | refine zX ?_ | (refine zC ?_; intro _ _ _ _) | (refine zS ?_; intro _ _) | refine zO ?_ | (apply Ws <;> intro hg))
              exact Ends.loop (k + 1, n9) (by show ns.length - (k + 1) < ns.length - k; omega) (by repeat' (first | exact .nil | refine .cons rfl ?_)) rfl ⟨hk', by simp only; omega, hH9⟩
            · have hxq : ¬ (x : Int) = q := by
                rw [hqe, ← hx]
                intro h
                have h2 : li.getD s 0 = li.getD (lf.length - 1) 0 := by omega
                rw [getD_eq hs', getD_eq (by omega)] at h2
                have := (List.getElem_inj hnd).1 h2
                omega
              rw [hx] at hxN hmt
              repeat' (first | refine zP ?_ | refine zA ?_ | (refine zM ?_; intro _ _) | refine zX ?_ | (refine zC ?_; intro _ _ _ _) | (refine zS ?_; intro _ _) | refine zO ?_ | (apply Ws <;> intro hg))
              rw [hx]
              refine WR.op (by first | exact gN | exact gS rfl) rfl (OpV.shl1 rfl rfl (by show x ≤ 64; omega) (pow_lt_63 (by omega))) ?_
              refine WR.op (by first | exact gN | exact gS rfl) rfl (OpV.orN rfl rfl (by show _ < 2 ^ 63; omega) (by show 2 ^ x < 2 ^ 63; exact pow_lt_63 (by omega))) ?_
              repeat' (first | refine zP ?_ | refine zA ?_ | (refine zM ?_; intro _ _) | refine zX ?_ | (refine zC ?_; intro _ _ _ _) | (refine zS ?_; intro _ _) | refine zO ?_ | (apply Ws <;> intro hg))
              refine Ends.loop (s + 1) (by omega) (.cons ?_ (by repeat' (first | exact .nil | refine .cons rfl ?_))) rfl ⟨rfl, hs', fun _ => by omega⟩
              rw [if_neg h0, hmt]; rfl
        · have h0 : lf.length = 0 := by
            rcases Nat.eq_zero_or_pos lf.length with h | h
            · exact h
            · have := hsf h; omega
          rw [if_pos h0]
          have hz : maskN [] = ci &&& ck := by rw [← hmf, List.length_eq_zero_iff.1 h0]
          rw [hz]
          repeat' (first | refine zP ?_ | refine zA ?_ | (refine zM ?_; intro _ _) | refine zX ?_ | (refine zC ?_; intro _ _ _ _) | (refine zS ?_; intro _ _) | refine zO ?_ | (apply Ws <;> intro hg))
          refine WR.op (by first | exact gN | exact gS rfl) rfl (OpV.andN rfl rfl (by show ci < 2 ^ 63; omega) (by show ck < 2 ^ 63; omega)) ?_
          repeat' (first | refine zP ?_ | refine zA ?_ | (refine zM ?_; intro _ _) | refine zX ?_ | (refine zC ?_; intro _ _ _ _) | (refine zS ?_; intro _ _) | refine zO ?_ | (apply Ws <;> intro hg))
          exact Ends.loop (k + 1, n9) (by show ns.length - (k + 1) < ns.length - k; omega) (by repeat' (first | exact .nil | refine .cons rfl ?_)) rfl ⟨hk', by simp only; omega, hH9⟩
      · repeat' (first | refine zP ?_ | refine zA ?_ | (refine zM ?_; intro _ _) | refine zX ?_ | (refine zC ?_; intro _ _ _ _) | (refine zS ?_; intro _ _) | refine zO ?_ | (apply Ws <;> intro hg))
        refine WR.call (by first | exact gN | exact gS rfl) rfl rfl (Last_fs hH7 hS5 hl8 hN1 hN6 hnb (i : Int) (k : Int)) ?_
        rintro _ H9 ⟨q, f, rfl, hr, n9, hn9, hH9⟩
        obtain ⟨rfl, hq⟩ := hLst hr
        clear hH7 hr hLst
        obtain ⟨lf, hlf⟩ : ∃ c, (li.filter fun x => ck.testBit x) = c := ⟨_, rfl⟩
        rw [hlf] at hpre hmf hq
        have hfl : lf.length ≤ li.length := by rw [← hlf]; exact List.length_filter_le _ _
        have hql : -1 ≤ q ∧ q < N := by
          rcases Nat.eq_zero_or_pos lf.length with h0 | h0
          · rw [hq, List.length_eq_zero_iff.1 h0]; simp [lastI]; omega
          · have h1 := lastI_get h0
            have h2 : lf.getD (lf.length - 1) 0 < N := hltN _ (by have hx := getD_mem (l := lf) (a := 0) (show lf.length - 1 < lf.length by omega); rw [← hlf] at hx ⊢; exact (List.mem_filter.1 hx).1)
            rw [hq, h1]; omega
        repeat' (first | refine zP ?_ | refine zA ?_ | (refine zM ?_; intro _ _) | refine zX ?_ | (refine zC ?_; intro _ _ _ _) | (refine zS ?_; intro _ _) | (apply Ws <;> intro hg))
        refine WC.loopX [(3, _), (4, _), (9, _), (18, _), (19, _), (20, _), (21, _), (22, _), (23, _), (125, _), (126, _), (127, _), (132, _), (133, _), (134, _), (179, _), (180, _)] (fun s : Nat => [(24, .int .i64 (maskN (if lf.length = 0 then [] else li.take s) : Int)), (181, .int .i64 (s : Int))]) [] (fun s H' => H' = H9 ∧ s ≤ li.length ∧ (1 ≤ lf.length → s < lf.length)) (fun s => li.length - s) 0 (by
          refine .cons ?_ (by repeat' (first | exact .nil | refine .cons rfl ?_))
          have : maskN (if lf.length = 0 then [] else li.take 0) = 0 := by split <;> rfl
          rw [this]; rfl) rfl ⟨rfl, Nat.zero_le _, fun h => h⟩ ?_
        rintro s _ ⟨rfl, hs, hsf⟩
        dsimp only [List.cons_append, List.nil_append]
        repeat' (first | refine zP ?_ | refine zA ?_ | (refine zM ?_; intro _ _) | refine zX ?_ | (refine zC ?_; intro _ _ _ _) | (refine zS ?_; intro _ _) | (apply Ws <;> intro hg))
        refine WC.condP rfl (fun hlt3 => ?_) (fun hlt3 => ?_)
        · have hs' : s < li.length := by omega
          have hxN := hltN _ (getD_mem (a := 0) hs')
          by_cases h0 : lf.length = 0
          · have hq1 : q = -1 := by rw [hq, List.length_eq_zero_iff.1 h0]; rfl
            subst hq1
            repeat' (first | refine zP ?_ | refine zA ?_ | (refine zM ?_; intro _ _) | refine zX ?_ | (refine zC ?_; intro _ _ _ _) | (refine zS ?_; intro _ _) | refine zO ?_ | (apply Ws <;> intro hg))
            refine Ends.loop (s + 1) (by omega) (.cons ?_ (by repeat' (first | exact .nil | refine .cons rfl ?_))) rfl ⟨rfl, hs', fun h => by omega⟩
            rw [if_pos h0, if_pos h0]; rfl
          · have h1 : 1 ≤ lf.length := by omega
            have hsl := hsf h1
            have hlast := lastI_get h1
            have hqe : q = ((li.getD (lf.length - 1) 0 : Nat) : Int) := by
              rw [hq, hlast, hpre, getD_take (by rw [List.length_take]; omega), List.length_take, Nat.min_eq_left hfl]
            have hmt := mask_take hs'
            have hmk : maskN (li.take s) < 2 ^ 62 := Nat.lt_of_lt_of_le (mask_lt (k := N) fun x hx => hltN x (List.mem_of_mem_take hx)) (Nat.pow_le_pow_right (by omega) (by omega))
            rw [if_neg h0]
            have hq0 : 0 ≤ q := by omega
            obtain ⟨x, hx⟩ : ∃ x, li.getD s 0 = x := ⟨_, rfl⟩
            by_cases he : s + 1 = lf.length
            · have hxq : (x : Int) = q := by rw [hqe, ← hx, show lf.length - 1 = s by omega]
              rw [hx] at hxN hmt
              repeat' (first | refine zP ?_ | refine zA ?_ | (refine zM ?_; intro _ _) | refine zX ?_ | (refine zC ?_; intro _ _ _ _) | (refine zS ?_; intro _ _) | refine zO ?_ | (apply Ws <;> intro hg))
              rw [hx]
              refine WR.op (by first | exact gN | exact gS rfl) rfl (OpV.shl1 rfl rfl (by show x ≤ 64; omega) (pow_lt_63 (by omega))) ?_
              refine WR.op (by first | exact gN | exact gS rfl) rfl (OpV.orN rfl rfl (by show _ < 2 ^ 63; omega) (by show 2 ^ x < 2 ^ 63; exact pow_lt_63 (by omega))) ?_
              rw [← hmt, he, ← (show lf = li.take lf.length from hpre), hmf]
              repeat' (first | refine zP ?_ | refine zA ?_ | (refine zM ?_; intro _ _) | refine zX ?_ | (refine zC ?_; intro _ _ _ _) | (refine zS ?_; intro _ _) | refine zO ?_ | (apply Ws <;> intro hg))
              refine WR.op (by first | exact gN | exact gS rfl) rfl (OpV.andN rfl rfl (by show ci < 2 ^ 63; omega) (by show ck < 2 ^ 63; omega)) ?_
              repeat' (first | refine zP ?_ | refine zA ?_ | (refine zM ?_; intro _ _) | refine zX ?_ | (refine zC ?_; intro _ _ _ _) | (refine zS ?_; intro _ _) | refine zO ?_ | (apply Ws <;> intro hg))
              exact Ends.loop (k + 1, n9) (by show ns.length - (k + 1) < ns.length - k; omega) (by repeat' (first | exact .nil | refine .cons rfl ?_)) rfl ⟨hk', by simp only; omega, hH9⟩
            · have hxq : ¬ (x : Int) = q := by
                rw [hqe, ← hx]
                intro h
                have h2 : li.getD s 0 = li.getD (lf.length - 1) 0 := by omega
                rw [getD_eq hs', getD_eq (by omega)] at h2
                have := (List.getElem_inj hnd).1 h2
                omega
              rw [hx] at hxN hmt
              repeat' (first | refine zP ?_ | refine zA ?_ | (refine zM ?_; intro _ _) | refine zX ?_ | (refine zC ?_; intro _ _ _ _) | (refine zS ?_; intro _ _) | refine zO ?_ | (apply Ws <;> intro hg))
              rw [hx]
              refine WR.op (by first | exact gN | exact gS rfl) rfl (OpV.shl1 rfl rfl (by show x ≤ 64; omega) (pow_lt_63 (by omega))) ?_
              refine WR.op (by first | exact gN | exact gS rfl) rfl (OpV.orN rfl rfl (by show _ < 2 ^ 63; omega) (by show 2 ^ x < 2 ^ 63; exact pow_lt_63 (by omega))) ?_
              repeat' (first | refine zP ?_ | refine zA ?_ | (refine zM ?_; intro _ _) | refine zX ?_ | (refine zC ?_; intro _ _ _ _) | (refine zS ?_; intro _ _) | refine zO ?_ | (apply Ws <;> intro hg))
              refine Ends.loop (s + 1) (by omega) (.cons ?_ (by repeat' (first | exact .nil | refine .cons rfl ?_))) rfl ⟨rfl, hs', fun _ => by omega⟩
              rw [if_neg h0, hmt]; rfl
        · have h0 : lf.length = 0 := by
            rcases Nat.eq_zero_or_pos lf.length with h | h
            · exact h
            · have := hsf h; omega
          rw [if_pos h0]
          have hz : maskN [] = ci &&& ck := by rw [← hmf, List.length_eq_zero_iff.1 h0]
          rw [hz]
          repeat' (first | refine zP ?_ | refine zA ?_ | (refine zM ?_; intro _ _) | refine zX ?_ | (refine zC ?_; intro _ _ _ _) | (refine zS ?_; intro _ _) | refine zO ?_ | (apply Ws <;> intro hg))
          refine WR.op (by first | exact gN | exact gS rfl) rfl (OpV.andN rfl rfl (by show ci < 2 ^ 63; omega) (by show ck < 2 ^ 63; omega)) ?_
          repeat' (first | refine zP ?_ | refine zA ?_ | (refine zM ?_; intro _ _) | refine zX ?_ | (refine zC ?_; intro _ _ _ _) | (refine zS ?_; intro _ _) | refine zO ?_ | (apply Ws <;> intro hg))
          exact Ends.loop (k + 1, n9) (by show ns.length - (k + 1) < ns.length - k; omega) (by repeat' (first | exact .nil | refine .cons rfl ?_)) rfl ⟨hk', by simp only; omega, hH9⟩
    · repeat' (first | refine zP ?_ | refine zA ?_ | (refine zM ?_; intro _ _) | refine zX ?_ | (refine zC ?_; intro _ _ _ _) | (refine zS ?_; intro _ _) | (apply Ws <;> intro hg))
      exact Ends.loop (i + 1, n7) (by show ns.length - (i + 1) < ns.length - i; omega) (by repeat' (first | exact .nil | refine .cons rfl ?_)) rfl ⟨hi', hn7, hH7⟩
  · repeat' (first | refine zP ?_ | refine zA ?_ | (refine zM ?_; intro _ _) | refine zX ?_ | (refine zC ?_; intro _ _ _ _) | (refine zS ?_; intro _ _) | (apply Ws <;> intro hg))
    refine WR.call (by first | exact gN | exact gS rfl) rfl rfl (FS.works (C := C) (R := fun v H' => v = .bool true) rfl) ?_
    rintro _ _ rfl
    repeat' (first | refine zP ?_ | refine zA ?_ | (refine zM ?_; intro _ _) | refine zX ?_ | (refine zC ?_; intro _ _ _ _) | (refine zS ?_; intro _ _) | (apply Ws <;> intro hg))
    exact Ends.ret1 rfl rfl
end
end Go.Proofs.Ytblopbimchkneaa.Md
