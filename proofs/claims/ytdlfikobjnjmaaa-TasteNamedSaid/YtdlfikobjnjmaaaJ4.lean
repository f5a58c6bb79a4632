/- Texts of the law, joined. -/
import Derived.Test.YtdlfikobjnjmaaaJ3
import Derived.Test.YtdlfikobjnjmaaaJ2
/- made: sales by numbers. -/
namespace Go.Proofs.Ytdlfikobjnjmaaa.Tt
open Go Go.Abs Go.Mth
set_option linter.unusedVariables false
set_option linter.unusedSimpArgs false
attribute [local irreducible] gOK WS WC WR WD Ends FS YS OpV seqK blockK loopK midK retK rdK asgK rangeEnd sat Cell
section
variable {M : HL} {n0 : Nat} {H : Heap}
set_option maxHeartbeats 8000000 in
theorem made_fs (hH : hasH M n0 H) {xs : List Nat} (hl : xs.length = 39) (hb : ∀ x ∈ xs, x ≤ 255) {most : Nat} (hm : most ≤ 6) :
    FS C 4 [.agg (numsK .u8 xs).toArray, .int .i64 (most : Int)] H (fun e H' => ∃ S u n' M2, (∀ s ∈ S, OKE (1 + xs.getD 0 0 % 3) s) ∧ S.length = xs.getD 1 0 % (most + 1) ∧ n0 ≤ n' ∧ hasH (M2 ++ M) n' H' ∧ SalesI (M2 ++ M) u S ∧ e = .tuple #[.int .i64 ((1 + xs.getD 0 0 % 3 : Nat) : Int), u]) := by
  have hbd : ∀ k, k < 39 → xs.getD k 0 ≤ 255 := fun k hk => hb _ (getD_mem (by omega))
  have hone : (numsK .u8 xs).all one = true := by rw [List.all_eq_true]; intro q hq; obtain ⟨z, _, rfl⟩ := List.mem_map.1 hq; rfl
  have hb0 := hbd 0 (by omega)
  have hb1 := hbd 1 (by omega)
  have hb2 := hbd 2 (by omega)
  refine FS.intro (pf := pf4) rfl rfl rfl ?_
  repeat' (first | refine zP ?_ | refine zA ?_ | (refine zM ?_; intro _ _) | refine zX ?_ | (refine zC ?_; intro _ _ _ _) | (refine zS ?_; intro _ _) | (apply Ws <;> intro hg))
  rename_i H1 hH1
  refine WR.op (by first | exact gN | exact gS rfl) rfl (OpV.conv u8k i64k rfl (c := ((xs.getD 0 0 : Nat) : Int)) (IntWalk.i64_in _ (by omega))) ?_
  have hmod := Nat.mod_lt (xs.getD 0 0) (show 0 < 3 by omega)
  have hmod1 := Nat.mod_lt (xs.getD 1 0) (show 0 < most + 1 by omega)
  repeat' (first | refine zP ?_ | refine zA ?_ | (refine zM ?_; intro _ _) | refine zX ?_ | (refine zC ?_; intro _ _ _ _) | (refine zS ?_; intro _ _) | (apply Ws <;> intro hg))
  rw [show ((xs.getD 0 0 : Nat) : Int) % 3 = ((xs.getD 0 0 % 3 : Nat) : Int) by simp]
  obtain ⟨g, hg⟩ : ∃ g, 1 + xs.getD 0 0 % 3 = g := ⟨_, rfl⟩
  have hg13 : 1 ≤ g ∧ g ≤ 3 := by omega
  repeat' (first | refine zP ?_ | refine zA ?_ | (refine zM ?_; intro _ _) | refine zX ?_ | (refine zC ?_; intro _ _ _ _) | (refine zS ?_; intro _ _) | (apply Ws <;> intro hg))
  rw [show (1 : Int) + ((xs.getD 0 0 % 3 : Nat) : Int) = ((1 + xs.getD 0 0 % 3 : Nat) : Int) by omega]
  rw [hg]
  repeat' (first | refine zP ?_ | refine zA ?_ | (refine zM ?_; intro _ _) | refine zX ?_ | (refine zC ?_; intro _ _ _ _) | (refine zS ?_; intro _ _) | (apply Ws <;> intro hg))
  refine WR.op (by first | exact gN | exact gS rfl) rfl (OpV.conv u8k i64k rfl (c := ((xs.getD 1 0 : Nat) : Int)) (IntWalk.i64_in _ (by omega))) ?_
  repeat' (first | refine zP ?_ | refine zA ?_ | (refine zM ?_; intro _ _) | refine zX ?_ | (refine zC ?_; intro _ _ _ _) | (refine zS ?_; intro _ _) | (apply Ws <;> intro hg))
  rw [show ((xs.getD 1 0 : Nat) : Int) % ((most : Int) + 1) = ((xs.getD 1 0 % (most + 1) : Nat) : Int) by simp]
  obtain ⟨N, hN⟩ : ∃ N, xs.getD 1 0 % (most + 1) = N := ⟨_, rfl⟩
  have hN6 : N ≤ 6 := by omega
  rw [hN]
  repeat' (first | refine zP ?_ | refine zA ?_ | (refine zM ?_; intro _ _) | refine zX ?_ | (refine zC ?_; intro _ _ _ _) | (refine zS ?_; intro _ _) | (apply Ws <;> intro hg))
  refine WC.loopX [(2, _), (6, _), (32, _)] (fun s : MO => [(7, s.v), (33, .int .i64 (s.i : Int))]) [] (fun s H' => s.i ≤ N ∧ n0 + 1 ≤ s.n ∧ Own 31 2 s.v (cellsF pairV s.ws) s.Mo ∧ SalR (s.Mi ++ M) s.ws s.S ∧ s.S.length = s.i ∧ (∀ x ∈ s.S, OKE g x) ∧ hasH ((n0, .row 25 0 0 (numsK .u8 xs)) :: (s.Mo ++ (s.Mi ++ M))) s.n H') (fun s => N - s.i) ⟨0, .slice none 0 0, [], [], [], [], n0 + 1⟩ (by repeat' (first | exact .nil | refine .cons rfl ?_)) rfl
    ⟨Nat.zero_le _, Nat.le_refl _, .nil, .nil _, rfl, (fun x hx => by cases hx), hH1⟩ ?_
  clear hH1 hH
  rintro ⟨i, va, ws, S, Mo, Mi, n1⟩ H2 ⟨hi, hn1, hO, hR, hSl, hSO, hH2⟩
  simp only at hi hn1 hO hR hSl hSO hH2
  dsimp only [List.cons_append, List.nil_append]
  repeat' (first | refine zP ?_ | refine zA ?_ | (refine zM ?_; intro _ _) | refine zX ?_ | (refine zC ?_; intro _ _ _ _) | (refine zS ?_; intro _ _) | (apply Ws <;> intro hg))
  refine WC.condP rfl (fun hlti => ?_) (fun hlti => ?_)
  · have hi' : i < N := by omega
    repeat' (first | refine zP ?_ | refine zA ?_ | (refine zM ?_; intro _ _) | refine zX ?_ | (refine zC ?_; intro _ _ _ _) | (refine zS ?_; intro _ _) | (apply Ws <;> intro hg))
    refine WC.loopX [(2, _), (6, _), (7, va), (8, .int .i64 (i : Int)), (32, _), (33, .int .i64 (i : Int)), (36, .int .i64 (g : Int))] (fun s : MK => [(9, s.vp), (10, s.vt), (37, .int .i64 (s.k : Int))]) [] (fun s H' => s.k ≤ g ∧ n0 + 1 ≤ s.n ∧ Own 3 1 s.vp (nodes s.p) s.Mp ∧ Own 3 1 s.vt (nodes s.t) s.Mt ∧ s.p.length = s.k ∧ s.t.length = s.k ∧ (∀ x ∈ s.p, 1 ≤ x ∧ x ≤ 4) ∧ (∀ x ∈ s.t, x ≤ 4) ∧ hasH ((n0, .row 25 0 0 (numsK .u8 xs)) :: (s.Mp ++ (s.Mt ++ (Mo ++ (Mi ++ M))))) s.n H') (fun s => g - s.k) ⟨0, .slice none 0 0, .slice none 0 0, [], [], [], [], n1⟩ (by repeat' (first | exact .nil | refine .cons rfl ?_)) rfl
      ⟨Nat.zero_le _, hn1, .nil, .nil, rfl, rfl, (fun x hx => by cases hx), (fun x hx => by cases hx), hH2⟩ ?_
    clear hH2
    rintro ⟨k, vp, vt, pl, tl, Mp, Mt, n2⟩ H3 ⟨hk, hn2, hOp, hOt, hpl, htl, hpb, htb, hH3⟩
    simp only at hk hn2 hOp hOt hpl htl hpb htb hH3
    dsimp only [List.cons_append, List.nil_append]
    repeat' (first | refine zP ?_ | refine zA ?_ | (refine zM ?_; intro _ _) | refine zX ?_ | (refine zC ?_; intro _ _ _ _) | (refine zS ?_; intro _ _) | (apply Ws <;> intro hg))
    refine WC.condP rfl (fun hltk => ?_) (fun hltk => ?_)
    · have hk' : k < g := by omega
      have hbp := hbd (3 + i * 3 + k) (by omega)
      have hbt := hbd (21 + i * 3 + k) (by omega)
      repeat' (first | refine zP ?_ | refine zA ?_ | (refine zM ?_; intro _ _) | refine zX ?_ | (refine zC ?_; intro _ _ _ _) | (refine zS ?_; intro _ _) | (apply Ws <;> intro hg))
      refine WR.op (by first | exact gN | exact gS rfl) rfl (OpV.conv u8k i64k rfl (c := ((xs.getD (3 + i * 3 + k) 0 : Nat) : Int)) (IntWalk.i64_in _ (by omega))) ?_
      repeat' (first | refine zP ?_ | refine zA ?_ | (refine zM ?_; intro _ _) | refine zX ?_ | (refine zC ?_; intro _ _ _ _) | (refine zS ?_; intro _ _) | (apply Ws <;> intro hg))
      rw [show ((xs.getD (3 + i * 3 + k) 0 : Nat) : Int) % 4 = ((xs.getD (3 + i * 3 + k) 0 % 4 : Nat) : Int) by simp]
      have hp4 := Nat.mod_lt (xs.getD (3 + i * 3 + k) 0) (show 0 < 4 by omega)
      generalize xs.getD (3 + i * 3 + k) 0 % 4 = pk at hp4
      repeat' (first | refine zP ?_ | refine zA ?_ | (refine zM ?_; intro _ _) | refine zX ?_ | (refine zC ?_; intro _ _ _ _) | (refine zS ?_; intro _ _) | (apply Ws <;> intro hg))
      refine WR.append1F [(n0, .row 25 0 0 (numsK .u8 xs))] Mp (Mt ++ (Mo ++ (Mi ++ M))) rfl rfl rfl rfl hOp hH3 (new := [.int .i64 ((1 + pk : Nat) : Int)]) (by rw [Int.natCast_add]; rfl) rfl rfl (Nat.le_refl _) (by omega) (by simp; omega) fun v4 M4 n4 H4 hO4 hH4 hn4 => ?_
      replace hH4 : hasH ((n0, .row 25 0 0 (numsK .u8 xs)) :: (M4 ++ (Mt ++ (Mo ++ (Mi ++ M))))) n4 H4 := hH4
      clear hH3
      repeat' (first | refine zP ?_ | refine zA ?_ | (refine zM ?_; intro _ _) | refine zX ?_ | (refine zC ?_; intro _ _ _ _) | (refine zS ?_; intro _ _) | (apply Ws <;> intro hg))
      refine WR.op (by first | exact gN | exact gS rfl) rfl (OpV.conv u8k i64k rfl (c := ((xs.getD (21 + i * 3 + k) 0 : Nat) : Int)) (IntWalk.i64_in _ (by omega))) ?_
      repeat' (first | refine zP ?_ | refine zA ?_ | (refine zM ?_; intro _ _) | refine zX ?_ | (refine zC ?_; intro _ _ _ _) | (refine zS ?_; intro _ _) | (apply Ws <;> intro hg))
      rw [show ((xs.getD (21 + i * 3 + k) 0 : Nat) : Int) % 5 = ((xs.getD (21 + i * 3 + k) 0 % 5 : Nat) : Int) by simp]
      have ht5 := Nat.mod_lt (xs.getD (21 + i * 3 + k) 0) (show 0 < 5 by omega)
      generalize xs.getD (21 + i * 3 + k) 0 % 5 = tk at ht5
      refine WR.append1F ((n0, .row 25 0 0 (numsK .u8 xs)) :: M4) Mt (Mo ++ (Mi ++ M)) rfl rfl rfl rfl hOt hH4 (new := [.int .i64 (tk : Int)]) (by rfl) rfl rfl (Nat.le_refl _) (by omega) (by simp; omega) fun v5 M5 n5 H5 hO5 hH5 hn5 => ?_
      replace hH5 : hasH ((n0, .row 25 0 0 (numsK .u8 xs)) :: (M4 ++ (M5 ++ (Mo ++ (Mi ++ M))))) n5 H5 := hH5
      repeat' (first | refine zP ?_ | refine zA ?_ | (refine zM ?_; intro _ _) | refine zX ?_ | (refine zC ?_; intro _ _ _ _) | (refine zS ?_; intro _ _) | (apply Ws <;> intro hg))
      refine Ends.loop ⟨k + 1, v4, v5, pl ++ [1 + pk], tl ++ [tk], M4, M5, n5⟩ (by simp only; omega) (by repeat' (first | exact .nil | refine .cons rfl ?_)) rfl ⟨by simp only; omega, by simp only; omega, ?_, ?_, by simp [hpl], by simp [htl], fun x hx => ?_, fun x hx => ?_, hH5⟩
      · simp only; rw [show nodes (pl ++ [1 + pk]) = nodes pl ++ [.int .i64 ((1 + pk : Nat) : Int)] by simp [nodes]]; exact hO4
      · simp only; rw [show nodes (tl ++ [tk]) = nodes tl ++ [.int .i64 (tk : Int)] by simp [nodes]]; exact hO5
      · rcases List.mem_append.1 hx with hx | hx
        · exact hpb x hx
        · rw [List.mem_singleton.1 hx]; omega
      · rcases List.mem_append.1 hx with hx | hx
        · exact htb x hx
        · rw [List.mem_singleton.1 hx]; omega
    · have hkg : k = g := by omega
      subst hkg
      have hSp0 := hOp.sl []
      rw [List.append_nil] at hSp0
      have hSt0 := hOt.sl []
      rw [List.append_nil] at hSt0
      have hpv := hSp0.one_
      repeat' (first | refine zP ?_ | refine zA ?_ | (refine zM ?_; intro _ _) | refine zX ?_ | (refine zC ?_; intro _ _ _ _) | (refine zS ?_; intro _ _) | (apply Ws <;> intro hg))
      refine WC.joinX [(2, _), (6, _), (7, va), (9, vp), (32, _), (33, .int .i64 (i : Int))] (by repeat' (first | exact .nil | refine .cons rfl ?_)) (fun s : MX => [(10, s.vt)]) (fun s H' => n0 + 1 ≤ s.n ∧ Sl s.Mt 1 s.vt (nodes s.t) ∧ s.t.length = k ∧ (∀ x ∈ s.t, x ≤ 4) ∧ hasH ((n0, .row 25 0 0 (numsK .u8 xs)) :: (Mp ++ (s.Mt ++ (Mo ++ (Mi ++ M))))) s.n H') ?_ ?_
      · refine WC.condP rfl (fun hodd => ?_) (fun hodd => ?_)
        · have hbpu := hbd (21 + i * 3) (by omega)
          repeat' (first | refine zP ?_ | refine zA ?_ | (refine zM ?_; intro _ _) | refine zX ?_ | (refine zC ?_; intro _ _ _ _) | (refine zS ?_; intro _ _) | (apply Ws <;> intro hg))
          rw [Nat.add_zero]
          repeat' (first | refine zP ?_ | refine zA ?_ | (refine zM ?_; intro _ _) | refine zX ?_ | (refine zC ?_; intro _ _ _ _) | (refine zS ?_; intro _ _) | (apply Ws <;> intro hg))
          refine WR.op (by first | exact gN | exact gS rfl) rfl (OpV.conv u8k i64k rfl (c := ((xs.getD (21 + i * 3) 0 : Nat) : Int)) (IntWalk.i64_in _ (by omega))) ?_
          repeat' (first | refine zP ?_ | refine zA ?_ | (refine zM ?_; intro _ _) | refine zX ?_ | (refine zC ?_; intro _ _ _ _) | (refine zS ?_; intro _ _) | (apply Ws <;> intro hg))
          rw [show ((xs.getD (21 + i * 3) 0 : Nat) : Int) % 9 = ((xs.getD (21 + i * 3) 0 % 9 : Nat) : Int) by simp]
          have hp9 := Nat.mod_lt (xs.getD (21 + i * 3) 0) (show 0 < 9 by omega)
          generalize xs.getD (21 + i * 3) 0 % 9 = purse at hp9
          repeat' (first | refine zP ?_ | refine zA ?_ | (refine zM ?_; intro _ _) | refine zX ?_ | (refine zC ?_; intro _ _ _ _) | (refine zS ?_; intro _ _) | (apply Ws <;> intro hg))
          refine WC.loopX [(2, _), (6, _), (7, va), (9, vp), (12, .int .i64 (4 + (purse : Int))), (32, _), (33, .int .i64 (i : Int))] (fun s : MX => [(10, s.vt), (13, .int .i64 s.best), (76, .int .i64 (s.x : Int))]) [] (fun s H' => s.x ≤ 5 ∧ n0 + 1 ≤ s.n ∧ Sl s.Mt 1 s.vt (nodes s.t) ∧ s.t.length = k ∧ (∀ x ∈ s.t, x ≤ 4) ∧ hasH ((n0, .row 25 0 0 (numsK .u8 xs)) :: (Mp ++ (s.Mt ++ (Mo ++ (Mi ++ M))))) s.n H') (fun s => 5 - s.x) ⟨0, vt, tl, -1, Mt, n2⟩ (by repeat' (first | exact .nil | refine .cons rfl ?_)) rfl
            ⟨Nat.zero_le _, hn2, hSt0, htl, htb, hH3⟩ ?_
          clear hH3 hSt0 hOt htl htb
          rintro ⟨x, vt, tl, best, Mt, n2⟩ H3 ⟨hx5, hn2, hSt0, htl, htb, hH3⟩
          simp only at hx5 hn2 hSt0 htl htb hH3
          dsimp only [List.cons_append, List.nil_append]
          repeat' (first | refine zP ?_ | refine zA ?_ | (refine zM ?_; intro _ _) | refine zX ?_ | (refine zC ?_; intro _ _ _ _) | (refine zS ?_; intro _ _) | (apply Ws <;> intro hg))
          refine WC.condP rfl (fun hltx => ?_) (fun hltx => ?_)
          · repeat' (first | refine zP ?_ | refine zA ?_ | (refine zM ?_; intro _ _) | refine zX ?_ | (refine zC ?_; intro _ _ _ _) | (refine zS ?_; intro _ _) | (apply Ws <;> intro hg))
            refine WC.loopX [(2, _), (6, _), (7, va), (9, vp), (12, .int .i64 (4 + (purse : Int))), (14, .int .i64 (x : Int)), (32, _), (33, .int .i64 (i : Int)), (76, .int .i64 (x : Int))] (fun s : MX => [(10, s.vt), (13, .int .i64 s.best), (79, .int .i64 (s.x : Int))]) [] (fun s H' => s.x ≤ 5 ∧ n0 + 1 ≤ s.n ∧ Sl s.Mt 1 s.vt (nodes s.t) ∧ s.t.length = k ∧ (∀ x ∈ s.t, x ≤ 4) ∧ hasH ((n0, .row 25 0 0 (numsK .u8 xs)) :: (Mp ++ (s.Mt ++ (Mo ++ (Mi ++ M))))) s.n H') (fun s => 5 - s.x) ⟨0, vt, tl, best, Mt, n2⟩ (by repeat' (first | exact .nil | refine .cons rfl ?_)) rfl
              ⟨Nat.zero_le _, hn2, hSt0, htl, htb, hH3⟩ ?_
            clear hH3 hSt0 htl htb hn2
            rintro ⟨y, vt, tl, best, Mt, n2⟩ H3 ⟨hy5, hn2, hSt0, htl, htb, hH3⟩
            simp only at hy5 hn2 hSt0 htl htb hH3
            dsimp only [List.cons_append, List.nil_append]
            repeat' (first | refine zP ?_ | refine zA ?_ | (refine zM ?_; intro _ _) | refine zX ?_ | (refine zC ?_; intro _ _ _ _) | (refine zS ?_; intro _ _) | (apply Ws <;> intro hg))
            refine WC.condP rfl (fun hlty => ?_) (fun hlty => ?_)
            · repeat' (first | refine zP ?_ | refine zA ?_ | (refine zM ?_; intro _ _) | refine zX ?_ | (refine zC ?_; intro _ _ _ _) | (refine zS ?_; intro _ _) | (apply Ws <;> intro hg))
              refine WC.loopX [(2, _), (6, _), (7, va), (9, vp), (12, .int .i64 (4 + (purse : Int))), (14, .int .i64 (x : Int)), (15, .int .i64 (y : Int)), (32, _), (33, .int .i64 (i : Int)), (76, .int .i64 (x : Int)), (79, .int .i64 (y : Int))] (fun s : MX => [(10, s.vt), (13, .int .i64 s.best), (82, .int .i64 (s.x : Int))]) [] (fun s H' => s.x ≤ 5 ∧ n0 + 1 ≤ s.n ∧ Sl s.Mt 1 s.vt (nodes s.t) ∧ s.t.length = k ∧ (∀ x ∈ s.t, x ≤ 4) ∧ hasH ((n0, .row 25 0 0 (numsK .u8 xs)) :: (Mp ++ (s.Mt ++ (Mo ++ (Mi ++ M))))) s.n H') (fun s => 5 - s.x) ⟨0, vt, tl, best, Mt, n2⟩ (by repeat' (first | exact .nil | refine .cons rfl ?_)) rfl
                ⟨Nat.zero_le _, hn2, hSt0, htl, htb, hH3⟩ ?_
              clear hH3 hSt0 htl htb hn2
              rintro ⟨z, vt, tl, best, Mt, n2⟩ H3 ⟨hz5, hn2, hSt0, htl, htb, hH3⟩
              simp only at hz5 hn2 hSt0 htl htb hH3
              dsimp only [List.cons_append, List.nil_append]
              repeat' (first | refine zP ?_ | refine zA ?_ | (refine zM ?_; intro _ _) | refine zX ?_ | (refine zC ?_; intro _ _ _ _) | (refine zS ?_; intro _ _) | (apply Ws <;> intro hg))
              refine WC.condP rfl (fun hltz => ?_) (fun hltz => ?_)
              · repeat' (first | refine zP ?_ | refine zA ?_ | (refine zM ?_; intro _ _) | refine zX ?_ | (refine zC ?_; intro _ _ _ _) | (refine zS ?_; intro _ _) | (apply Ws <;> intro hg))
                refine WR.bldS (by first | exact gN | exact gS rfl) rfl hH3 (vs := [(0, .int .i64 (x : Int)), (1, .int .i64 (y : Int)), (2, .int .i64 (z : Int))]) rfl (cs := [.int .i64 (x : Int), .int .i64 (y : Int), .int .i64 (z : Int)]) (by rfl) rfl fun H4 hH4 => ?_
                clear hH3
                obtain ⟨tk, htk⟩ : ∃ tk, tk = [x, y, z].take k := ⟨_, rfl⟩
                have htkl : tk.length = k := by rw [htk, List.length_take]; simp; omega
                have htkb : ∀ q ∈ tk, q ≤ 4 := fun q hq => by
                  rw [htk] at hq
                  have := List.mem_of_mem_take hq
                  simp only [List.mem_cons, List.not_mem_nil, or_false] at this
                  omega
                have hS3 : Sl ((n2, Ch.row 3 0 0 (nodes [x, y, z])) :: (n0, Ch.row 25 0 0 (numsK .u8 xs)) :: (Mp ++ (Mt ++ (Mo ++ (Mi ++ M))))) 1 (.slice (some ⟨n2, 0, some 0⟩) 3 (2 * 3 + 1)) (nodes [x, y, z]) :=
                  .row (lo := 0) (cs := nodes [x, y, z]) (.head _) (.row _ _ _ _) (Nat.le_refl _) rfl (by simp) (by simp) (.inr ⟨3, rfl, Nat.le_refl _⟩)
                replace hH4 : hasH ((n2, Ch.row 3 0 0 (nodes [x, y, z])) :: (n0, Ch.row 25 0 0 (numsK .u8 xs)) :: (Mp ++ (Mt ++ (Mo ++ (Mi ++ M))))) (n2 + 1) H4 := hH4
                repeat' (first | refine zP ?_ | refine zA ?_ | (refine zM ?_; intro _ _) | refine zX ?_ | (refine zC ?_; intro _ _ _ _) | (refine zS ?_; intro _ _) | (apply Ws <;> intro hg))
                refine WR.cutHiN (m := k) (by first | exact gN | exact gS rfl) rfl rfl hS3 rfl (by simp; omega) fun w5 hW => ?_
                rw [← htk] at hW
                clear hS3 htk
                generalize nodes [x, y, z] = rw3 at hH4 hW
                have hSp : Sl ((n2, Ch.row 3 0 0 rw3) :: (n0, Ch.row 25 0 0 (numsK .u8 xs)) :: (Mp ++ (Mt ++ (Mo ++ (Mi ++ M))))) 1 vp (nodes pl) := hSp0.mono fun q hq => .tail _ (.tail _ (List.mem_append_left _ hq))
                have hw51 := hW.one_
                repeat' (first | refine zP ?_ | refine zA ?_ | (refine zM ?_; intro _ _) | refine zX ?_ | (refine zC ?_; intro _ _ _ _) | (refine zS ?_; intro _ _) | (apply Ws <;> intro hg))
                refine WC.loopX [(2, _), (6, _), (7, va), (9, vp), (10, vt), (12, .int .i64 (4 + (purse : Int))), (13, .int .i64 best), (14, .int .i64 (x : Int)), (15, .int .i64 (y : Int)), (17, w5), (32, _), (33, .int .i64 (i : Int)), (76, .int .i64 (x : Int)), (79, .int .i64 (y : Int)), (82, .int .i64 (z : Int)), (91, w5), (92, _)] (fun s : MQ => [(18, .int .i64 s.c), (19, .int .i64 s.w), (93, .int .i64 (s.k : Int))]) [] (fun s H' => H' = H4 ∧ s.k ≤ k ∧ 0 ≤ s.c ∧ s.c ≤ 16 * s.k ∧ 1 ≤ s.w ∧ s.w ≤ 7 ^ s.k) (fun s => k - s.k) ⟨0, 0, 1⟩ (by repeat' (first | exact .nil | refine .cons rfl ?_)) rfl
                  ⟨rfl, Nat.zero_le _, by simp, by simp, by simp, by simp⟩ ?_
                rintro ⟨m, c, ww⟩ H5 ⟨rfl, hmk, hc0, hc1, hw0, hw1⟩
                simp only at hmk hc0 hc1 hw0 hw1
                have hw7 := pow7 (k := m) (by omega)
                dsimp only [List.cons_append, List.nil_append]
                repeat' (first | refine zP ?_ | refine zA ?_ | (refine zM ?_; intro _ _) | refine zX ?_ | (refine zC ?_; intro _ _ _ _) | (refine zS ?_; intro _ _) | (apply Ws <;> intro hg))
                refine WC.condP rfl (fun hltm => ?_) (fun hltm => ?_)
                · have hm' : m < k := by omega
                  have hpm := hpb _ (getD_mem (a := 0) (show m < pl.length by omega))
                  have htm := htkb _ (getD_mem (a := 0) (show m < tk.length by omega))
                  have hpr0 : 0 ≤ ((pl.getD m 0 : Nat) : Int) * ((tk.getD m 0 : Nat) : Int) := Int.mul_nonneg (by omega) (by omega)
                  have hpr1 : ((pl.getD m 0 : Nat) : Int) * ((tk.getD m 0 : Nat) : Int) ≤ 4 * 4 := Int.mul_le_mul (by omega) (by omega) (by omega) (by decide)
                  have hre0 : 0 ≤ ((xs.getD 2 0 / 2 : Nat) : Int) % ((m : Int) + 1) := Int.emod_nonneg _ (by omega)
                  have hre1 : ((xs.getD 2 0 / 2 : Nat) : Int) % ((m : Int) + 1) < (m : Int) + 1 := Int.emod_lt_of_pos _ (by omega)
                  have hpw0 : 0 ≤ ww * (((tk.getD m 0 : Nat) : Int) + 1 + ((xs.getD 2 0 / 2 : Nat) : Int) % ((m : Int) + 1)) := Int.mul_nonneg (by omega) (by omega)
                  have hpw1 : ww * (((tk.getD m 0 : Nat) : Int) + 1 + ((xs.getD 2 0 / 2 : Nat) : Int) % ((m : Int) + 1)) ≤ 7 ^ m * 7 := Int.mul_le_mul hw1 (by omega) (by omega) (by omega)
                  have hpw2 : 1 * 1 ≤ ww * (((tk.getD m 0 : Nat) : Int) + 1 + ((xs.getD 2 0 / 2 : Nat) : Int) % ((m : Int) + 1)) := Int.mul_le_mul hw0 (by omega) (by omega) (by omega)
                  have hpw3 : (7 : Int) ^ m * 7 = 7 ^ (m + 1) := rfl
                  have hpw4 := pow7 (k := m + 1) (by omega)
                  rw [hpw3] at hpw1
                  clear hpw3
                  repeat' (first | refine zP ?_ | refine zA ?_ | (refine zM ?_; intro _ _) | refine zX ?_ | (refine zC ?_; intro _ _ _ _) | (refine zS ?_; intro _ _) | (apply Ws <;> intro hg))
                  refine WR.op (by first | exact gN | exact gS rfl) rfl (OpV.half rfl rfl hb2) ?_
                  repeat' (first | refine zP ?_ | refine zA ?_ | (refine zM ?_; intro _ _) | refine zX ?_ | (refine zC ?_; intro _ _ _ _) | (refine zS ?_; intro _ _) | (apply Ws <;> intro hg))
                  refine WR.op (by first | exact gN | exact gS rfl) rfl (OpV.conv u8k i64k rfl (c := ((xs.getD 2 0 / 2 : Nat) : Int)) (IntWalk.i64_in _ (by omega))) ?_
                  repeat' (first | refine zP ?_ | refine zA ?_ | (refine zM ?_; intro _ _) | refine zX ?_ | (refine zC ?_; intro _ _ _ _) | (refine zS ?_; intro _ _) | (apply Ws <;> intro hg))
                  exact Ends.loop ⟨m + 1, c + ((pl.getD m 0 : Nat) : Int) * ((tk.getD m 0 : Nat) : Int), ww * (((tk.getD m 0 : Nat) : Int) + 1 + ((xs.getD 2 0 / 2 : Nat) : Int) % ((m : Int) + 1))⟩ (by simp only; omega) (by repeat' (first | exact .nil | refine .cons rfl ?_)) rfl ⟨rfl, by simp only; omega, by simp only; omega, by simp only; omega, by simp only; omega, hpw1⟩
                · have hmk2 : m = k := by omega
                  subst hmk2
                  have hH6 : hasH ((n0, .row 25 0 0 (numsK .u8 xs)) :: (Mp ++ (Mt ++ (Mo ++ (Mi ++ M))))) (n2 + 1) H5 := hH4.tail
                  repeat' (first | refine zP ?_ | refine zA ?_ | (refine zM ?_; intro _ _) | refine zX ?_ | (refine zC ?_; intro _ _ _ _) | (refine zS ?_; intro _ _) | (apply Ws <;> intro hg))
                  · refine WC.condP rfl (fun hgt => ?_) (fun hgt => ?_)
                    · repeat' (first | refine zP ?_ | refine zA ?_ | (refine zM ?_; intro _ _) | refine zX ?_ | (refine zC ?_; intro _ _ _ _) | (refine zS ?_; intro _ _) | (apply Ws <;> intro hg))
                      refine WR.call (by first | exact gN | exact gS rfl) rfl rfl (Clone_fs hH4 hW (List.length_pos_iff.1 (by omega)) (by omega)) ?_
                      rintro e9 H10 ⟨Mx, n10, hOx, hn10, hH10⟩
                      have hH11 : hasH ((n0, .row 25 0 0 (numsK .u8 xs)) :: (Mp ++ (Mx ++ (Mo ++ (Mi ++ M))))) n10 H10 := by
                        refine (hH10.sub (M' := Mx ++ ((n0, .row 25 0 0 (numsK .u8 xs)) :: (Mp ++ (Mo ++ (Mi ++ M))))) ((List.Sublist.refl Mx).append (.cons _ (.cons_cons _ ((List.Sublist.refl Mp).append (List.sublist_append_right _ _)))))).perm (by classical exact List.perm_iff_count.2 (fun a => by simp only [defds, List.map_cons, List.map_nil, List.count_append, List.count_cons, List.count_nil, List.cons_append, List.nil_append, List.append_nil]; omega))
                      have hSx := hOx.own.sl []
                      rw [List.append_nil] at hSx
                      repeat' (first | refine zP ?_ | refine zA ?_ | (refine zM ?_; intro _ _) | refine zX ?_ | (refine zC ?_; intro _ _ _ _) | (refine zS ?_; intro _ _) | (apply Ws <;> intro hg))
                      exact Ends.loop ⟨z + 1, e9, tk, ww, Mx, n10⟩ (by simp only; omega) (by repeat' (first | exact .nil | refine .cons rfl ?_)) rfl ⟨by simp only; omega, by simp only; omega, hSx, htkl, htkb, hH11⟩
                    · repeat' (first | refine zP ?_ | refine zA ?_ | (refine zM ?_; intro _ _) | refine zX ?_ | (refine zC ?_; intro _ _ _ _) | (refine zS ?_; intro _ _) | (apply Ws <;> intro hg))
                      exact Ends.loop ⟨z + 1, vt, tl, best, Mt, n2 + 1⟩ (by simp only; omega) (by repeat' (first | exact .nil | refine .cons rfl ?_)) rfl ⟨by simp only; omega, by simp only; omega, hSt0, htl, htb, hH6⟩
                  · exact Ends.loop ⟨z + 1, vt, tl, best, Mt, n2 + 1⟩ (by simp only; omega) (by repeat' (first | exact .nil | refine .cons rfl ?_)) rfl ⟨by simp only; omega, by simp only; omega, hSt0, htl, htb, hH6⟩
              · repeat' (first | refine zP ?_ | refine zA ?_ | (refine zM ?_; intro _ _) | refine zX ?_ | (refine zC ?_; intro _ _ _ _) | (refine zS ?_; intro _ _) | (apply Ws <;> intro hg))
                exact Ends.loop ⟨y + 1, vt, tl, best, Mt, n2⟩ (by simp only; omega) (by repeat' (first | exact .nil | refine .cons rfl ?_)) rfl ⟨by simp only; omega, hn2, hSt0, htl, htb, hH3⟩
            · repeat' (first | refine zP ?_ | refine zA ?_ | (refine zM ?_; intro _ _) | refine zX ?_ | (refine zC ?_; intro _ _ _ _) | (refine zS ?_; intro _ _) | (apply Ws <;> intro hg))
              exact Ends.loop ⟨x + 1, vt, tl, best, Mt, n2⟩ (by simp only; omega) (by repeat' (first | exact .nil | refine .cons rfl ?_)) rfl ⟨by simp only; omega, hn2, hSt0, htl, htb, hH3⟩
          · repeat' (first | refine zP ?_ | refine zA ?_ | (refine zM ?_; intro _ _) | refine zX ?_ | (refine zC ?_; intro _ _ _ _) | (refine zS ?_; intro _ _) | (apply Ws <;> intro hg))
            exact Ends.midE (α := MX) ⟨0, vt, tl, 0, Mt, n2⟩ (by repeat' (first | exact .nil | refine .cons rfl ?_)) rfl ⟨hn2, hSt0, htl, htb, hH3⟩
        · repeat' (first | refine zP ?_ | refine zA ?_ | (refine zM ?_; intro _ _) | refine zX ?_ | (refine zC ?_; intro _ _ _ _) | (refine zS ?_; intro _ _) | (apply Ws <;> intro hg))
          exact Ends.midX ⟨0, vt, tl, 0, Mt, n2⟩ (by repeat' (first | exact .nil | refine .cons rfl ?_)) ⟨hn2, hSt0, htl, htb, hH3⟩
      · clear hH3
        rintro ⟨_, vt2, t2l, _, Mt2, n3⟩ H5 ⟨hn3, hSt, htl2, htb2, hH5⟩
        simp only at hn3 hSt htl2 htb2 hH5
        have htv := hSt.one_
        have hwl := hR.1
        dsimp only [List.cons_append, List.nil_append]
        repeat' (first | refine zP ?_ | refine zA ?_ | (refine zM ?_; intro _ _) | refine zX ?_ | (refine zC ?_; intro _ _ _ _) | (refine zS ?_; intro _ _) | (apply Ws <;> intro hg))
        refine WR.op (by first | exact gN | exact gS rfl) rfl (OpV.bldT rfl (fill2 hpv htv)) ?_
        refine WR.append1F ([(n0, .row 25 0 0 (numsK .u8 xs))] ++ (Mp ++ Mt2)) Mo (Mi ++ M) rfl rfl rfl rfl hO (hH5.perm ?_) (new := [vp, vt2]) (by rfl) (one2 hpv htv) rfl (by decide) (by decide) (by rw [cellsF_len pairV_len]; simp; omega) fun v6 M6 n6 H6 hO6 hH6 hn6 => ?_
        · simp
        replace hH6 : hasH ((n0, .row 25 0 0 (numsK .u8 xs)) :: ((Mp ++ Mt2) ++ (M6 ++ (Mi ++ M)))) n6 H6 := hH6
        repeat' (first | refine zP ?_ | refine zA ?_ | (refine zM ?_; intro _ _) | refine zX ?_ | (refine zC ?_; intro _ _ _ _) | (refine zS ?_; intro _ _) | (apply Ws <;> intro hg))
        rw [cells_snoc] at hO6
        refine Ends.loop ⟨i + 1, v6, ws ++ [(vp, vt2)], S ++ [(IL pl, IL t2l)], M6, (Mp ++ Mt2) ++ Mi, n6⟩ (by simp only; omega) (by repeat' (first | exact .nil | refine .cons rfl ?_)) rfl ⟨by simp only; omega, by simp only; omega, hO6, ?_, by simp [hSl], fun x hx => ?_, ?_⟩
        · refine SalR.snoc (hR.mono fun q hq => ?_) ?_ ?_
          · rw [List.append_assoc]; exact List.mem_append_right _ hq
          · rw [nodes_ints]; exact hSp0.mono fun q hq => by simp [hq]
          · rw [nodes_ints]; exact hSt.mono fun q hq => by simp [hq]
        · rcases List.mem_append.1 hx with hx | hx
          · exact hSO x hx
          · rw [List.mem_singleton.1 hx]
            refine ⟨by rw [IL_len]; exact hpl, by rw [IL_len]; exact htl2, fun y hy => ?_, fun y hy => ?_⟩
            · obtain ⟨z, hz, rfl⟩ := List.mem_map.1 hy
              have := hpb z hz; omega
            · obtain ⟨z, hz, rfl⟩ := List.mem_map.1 hy
              have := htb2 z hz; omega
        · simp only
          exact hH6.perm (by classical exact List.perm_iff_count.2 (fun a => by simp only [defds, List.map_cons, List.map_nil, List.count_append, List.count_cons, List.count_nil, List.cons_append, List.nil_append, List.append_nil]; omega))
  · have hiN : i = N := by omega
    subst hiN
    repeat' (first | refine zP ?_ | refine zA ?_ | (refine zM ?_; intro _ _) | refine zX ?_ | (refine zC ?_; intro _ _ _ _) | (refine zS ?_; intro _ _) | (apply Ws <;> intro hg))
    exact Ends.ret2 rfl rfl ⟨S, va, n1, Mo ++ Mi, hSO, hSl, by omega, by simpa using hH2.tail, by rw [List.append_assoc]; exact (hR.mono fun q hq => List.mem_append_right _ hq).sales (hO.sl (Mi ++ M)), rfl⟩
end
end Go.Proofs.Ytdlfikobjnjmaaa.Tt

/- lead; ringed. -/
namespace Go.Proofs.Ytdlfikobjnjmaaa.Tt
open Go Go.Abs Go.Mth
set_option linter.unusedVariables false
set_option linter.unusedSimpArgs false
def StK (g : Nat → Nat → Bool) (n : Nat) : Nat → Nat → Nat → Prop
  | 0, a, b => a = b ∧ a < n
  | r + 1, a, c => ∃ b, StK g n r a b ∧ c < n ∧ g b c = true
theorem StK.rt {g : Nat → Nat → Bool} {n : Nat} : ∀ {r a b : Nat}, StK g n r a b → RT g n a b
  | 0, a, b, ⟨h1, h2⟩ => by rw [← h1]; exact .refl h2
  | r + 1, a, c, ⟨b, h1, h2, h3⟩ => .step h1.rt h3 h2
theorem StK.lt {g : Nat → Nat → Bool} {n r a b : Nat} (h : StK g n r a b) : a < n ∧ b < n := h.rt.lt
theorem StK.up {g : Nat → Nat → Bool} {n r a b : Nat} (hg : ∀ x, g x x = true) (h : StK g n r a b) : ∀ k, StK g n (r + k) a b
  | 0 => h
  | k + 1 => ⟨b, h.up hg k, h.lt.2, hg b⟩
theorem StK.of {g : Nat → Nat → Bool} {n : Nat} (hg : ∀ x, g x x = true) {a b : Nat} (h : RT g n a b) : StK g n n a b := by
  obtain ⟨l, h1, h2, h3⟩ := h.chain
  have hl := h1.len
  have key : ∀ j, j < l.length → StK g n j (l.getD 0 0) (l.getD j 0) := by
    intro j
    induction j with
    | zero => intro hj; exact ⟨rfl, h1.lt hj⟩
    | succ j ih => intro hj; exact ⟨_, ih (by omega), h1.lt hj, h1.2.2.2 j hj⟩
  have := (key (l.length - 1) (by omega)).up hg (n - (l.length - 1))
  rw [h2, h3, show l.length - 1 + (n - (l.length - 1)) = n by omega] at this
  exact this
def tg (T : List Bool) (a b : Nat) : Bool := T.getD (a * 6 + b) false
theorem tg_set {T : List Bool} {a b p q : Nat} {x : Bool} (hT : T.length = 36) (ha : a < 6) (hb : b < 6) (hp : p < 6) (hq : q < 6) : tg (T.set (a * 6 + b) x) p q = if p = a ∧ q = b then x else tg T p q := by
  unfold tg
  rw [getD_set' (by omega)]
  by_cases e : p * 6 + q = a * 6 + b
  · rw [if_pos e, if_pos (by omega)]
  · rw [if_neg e, if_neg (by omega)]
structure Pass (g : Nat → Nat → Bool) (n r : Nat) (T : List Bool) (a b c : Nat) : Prop where
  len : T.length = 36
  snd : ∀ p q, p < n → q < n → tg T p q = true → RT g n p q
  old : ∀ p q, StK g n (r + 1) p q → tg T p q = true
  new : ∀ p q s, p < n → q < n → s < n → (p < a ∨ (p = a ∧ (q < b ∨ (q = b ∧ s < c)))) → StK g n (r + 1) p q → g q s = true → tg T p s = true
theorem Pass.set {g : Nat → Nat → Bool} {n r a b c : Nat} {T : List Bool} (hg : ∀ x, g x x = true) (hn : n ≤ 6) (h : Pass g n r T a b c) (ha : a < n) (hb : b < n) (hc : c < n) :
    Pass g n r (T.set (a * 6 + c) (tg T a c || (tg T a b && tg T b c))) a b (c + 1) := by
  have hx : ∀ p q, p < n → q < n → tg (T.set (a * 6 + c) (tg T a c || (tg T a b && tg T b c))) p q = if p = a ∧ q = c then (tg T a c || (tg T a b && tg T b c)) else tg T p q := fun p q hp hq => tg_set h.len (by omega) (by omega) (by omega) (by omega)
  have hmono : ∀ p q, p < n → q < n → tg T p q = true → tg (T.set (a * 6 + c) (tg T a c || (tg T a b && tg T b c))) p q = true := fun p q hp hq ht => by
    rw [hx p q hp hq]
    by_cases e : p = a ∧ q = c
    · rw [if_pos e, ← e.1, ← e.2, ht, Bool.true_or]
    · rw [if_neg e]; exact ht
  refine ⟨by rw [List.length_set]; exact h.len, fun p q hp hq ht => ?_, fun p q hr => hmono p q hr.lt.1 hr.lt.2 (h.old p q hr), fun p q s hp hq hs hlt hr hgq => ?_⟩
  · rw [hx p q hp hq] at ht
    by_cases e : p = a ∧ q = c
    · rw [if_pos e, Bool.or_eq_true, Bool.and_eq_true] at ht
      rw [e.1, e.2]
      rcases ht with ht | ⟨k1, k2⟩
      · exact h.snd a c ha hc ht
      · exact (h.snd a b ha hb k1).trans (h.snd b c hb hc k2)
    · rw [if_neg e] at ht; exact h.snd p q hp hq ht
  · by_cases e : p = a ∧ q = b ∧ s = c
    · obtain ⟨rfl, rfl, rfl⟩ := e
      rw [hx p s hp hs, if_pos ⟨rfl, rfl⟩, h.old p q hr, h.old q s ((show StK g n 1 q s from ⟨q, ⟨rfl, hq⟩, hs, hgq⟩).up hg r |> fun k => by rwa [Nat.add_comm] at k)]
      simp
    · exact hmono p s hp hs (h.new p q s hp hq hs (by omega) hr hgq)
theorem Pass.next {g : Nat → Nat → Bool} {n r : Nat} {T : List Bool} (h : Pass g n r T n 0 0) : Pass g n (r + 1) T 0 0 0 :=
  ⟨h.len, h.snd, fun p q ⟨b, h1, h2, h3⟩ => h.new p b q h1.lt.1 h1.lt.2 h2 (.inl h1.lt.1) h1 h3, fun p q s _ _ _ hlt => by omega⟩
theorem Pass.all {g : Nat → Nat → Bool} {n : Nat} {T : List Bool} (hg : ∀ x, g x x = true) (h : Pass g n n T 0 0 0) {p q : Nat} (hp : p < n) (hq : q < n) : tg T p q = true ↔ RT g n p q :=
  ⟨h.snd p q hp hq, fun k => h.old p q ((StK.of hg k).up hg 1)⟩
theorem Pass.zero {g : Nat → Nat → Bool} {n : Nat} {T : List Bool} (hg : ∀ x, g x x = true) (hl : T.length = 36) (h : ∀ p q, p < n → q < n → tg T p q = g p q) : Pass g n 0 T 0 0 0 := by
  refine ⟨hl, fun p q hp hq ht => ?_, fun p q ⟨b, ⟨k1, k2⟩, k3, k4⟩ => ?_, fun p q s _ _ _ hlt => by omega⟩
  · rw [h p q hp hq] at ht; exact .step (.refl hp) ht hq
  · subst k1
    rw [h p q k2 k3]; exact k4
def Fill (g : Nat → Nat → Bool) (n : Nat) (T : List Bool) (a b : Nat) : Prop := T.length = 36 ∧ ∀ p q, p < n → q < n → (p < a ∨ (p = a ∧ q < b)) → tg T p q = g p q
theorem Fill.set {g : Nat → Nat → Bool} {n a b : Nat} {T : List Bool} (hn : n ≤ 6) (h : Fill g n T a b) (ha : a < n) (hb : b < n) : Fill g n (T.set (a * 6 + b) (g a b)) a (b + 1) := by
  refine ⟨by rw [List.length_set]; exact h.1, fun p q hp hq hlt => ?_⟩
  rw [tg_set h.1 (by omega) (by omega) (by omega) (by omega)]
  by_cases e : p = a ∧ q = b
  · rw [if_pos e, e.1, e.2]
  · rw [if_neg e]; exact h.2 p q hp hq (by omega)
attribute [local irreducible] gOK WS WC WR WD Ends FS YS OpV seqK blockK loopK midK retK rdK asgK rangeEnd sat Cell
section
variable {M : HL} {n0 : Nat} {H : Heap} {v w : Value}
end
end Go.Proofs.Ytdlfikobjnjmaaa.Tt

/- ringed. -/
namespace Go.Proofs.Ytdlfikobjnjmaaa.Tt
open Go Go.Abs Go.Mth
set_option linter.unusedVariables false
set_option linter.unusedSimpArgs false
theorem SalesI.at {M : HL} {v : Value} {S : List Sal} (h : SalesI M v S) : ∃ ws : List (Value × Value), Sl M 2 v (cellsF pairV ws) ∧ ws.length = S.length ∧ (∀ i, i < S.length → Sl M 1 (ws.getD i noVal).1 (ints (S.getD i noSal).1) ∧ Sl M 1 (ws.getD i noVal).2 (ints (S.getD i noSal).2)) := h
attribute [local irreducible] gOK WS WC WR WD Ends FS YS OpV seqK blockK loopK midK retK rdK asgK rangeEnd sat Cell
section
variable {M : HL} {n0 : Nat} {H : Heap} {v w : Value}
end
end Go.Proofs.Ytdlfikobjnjmaaa.Tt

/- same, closes; numbers are judged. -/
namespace Go.Proofs.Ytdlfikobjnjmaaa.Tt
open Go Go.Abs Go.Mth
set_option linter.unusedVariables false
set_option linter.unusedSimpArgs false
theorem mul_bd {V D B : Int} (h0 : 0 ≤ V) (hB : V ≤ B) (hl : -243 ≤ D) (hu : D ≤ 243) : -(243 * B) ≤ V * D ∧ V * D ≤ 243 * B := by
  have k1 : V * D ≤ V * 243 := Int.mul_le_mul_of_nonneg_left hu h0
  have k2 : V * (-243) ≤ V * D := Int.mul_le_mul_of_nonneg_left hl h0
  omega
def NumP (P : List (List Int)) (W V : List Int) : Prop := numOK (DP P) P.length (fun a => W.getD a 0) (fun a => V.getD a 0)
def RngP (n : Nat) (W V : List Int) : Prop := W.length = n ∧ V.length = n ∧ (∀ a, a < n → 0 ≤ W.getD a 0 ∧ W.getD a 0 ≤ 1000000000000) ∧ ∀ a, a < n → 1 ≤ V.getD a 0 ∧ V.getD a 0 ≤ 1000000000000
def closL (D : Nat → Nat → Int) (l : List Nat) : Prop := l.Nodup ∧ closB D l = true
theorem nodup_at {l : List Nat} : l.Nodup ↔ ∀ j, j < l.length → l.getD j 0 ∉ l.take j := by
  constructor
  · intro h j hj hm
    obtain ⟨i, hi, he⟩ := List.mem_iff_getElem.1 hm
    rw [List.getElem_take] at he
    rw [List.length_take] at hi
    rw [getD_eq hj] at he
    exact (List.pairwise_iff_getElem.1 h) i j (by omega) hj (by omega) he
  · intro h
    refine List.pairwise_iff_getElem.2 fun i j hi hj hij he => h j hj ?_
    rw [getD_eq hj, ← he]
    exact List.mem_iff_getElem.2 ⟨i, by simp; omega, by rw [List.getElem_take]⟩
attribute [local irreducible] gOK WS WC WR WD Ends FS YS OpV seqK blockK loopK midK retK rdK asgK rangeEnd sat Cell
section
variable {M : HL} {n0 : Nat} {H : Heap} {v w u : Value}
theorem same_fs (hH : hasH M n0 H) {a b : List Int} (hS : Sl M 1 v (ints a)) (hT : Sl M 1 w (ints b)) (ha : a.length ≤ 100000) :
    FS C 14 [v, w] H (fun e H' => H' = H ∧ e = .bool (decide (a = b))) := by
  refine FS.intro (pf := pf14) rfl rfl rfl ?_
  repeat' (first | refine zP ?_ | refine zA ?_ | (refine zM ?_; intro _ _) | refine zX ?_ | (refine zC ?_; intro _ _ _ _) | (refine zS ?_; intro _ _) | (apply Ws <;> intro hg))
  refine WC.condP rfl (fun hne => ?_) (fun hne => ?_)
  · repeat' (first | refine zP ?_ | refine zA ?_ | (refine zM ?_; intro _ _) | refine zX ?_ | (refine zC ?_; intro _ _ _ _) | (refine zS ?_; intro _ _) | (apply Ws <;> intro hg))
    refine Ends.ret1 rfl ⟨rfl, ?_⟩
    rw [decide_eq_false fun e => by subst e; exact hne rfl]
  · have hab : a.length = b.length := by omega
    repeat' (first | refine zP ?_ | refine zA ?_ | (refine zM ?_; intro _ _) | refine zX ?_ | (refine zC ?_; intro _ _ _ _) | (refine zS ?_; intro _ _) | (apply Ws <;> intro hg))
    refine WC.loopX [(0, v), (1, w)] (fun k : Nat => [(5, .int .i64 (k : Int))]) [] (fun k H' => H' = H ∧ k ≤ a.length ∧ ∀ j, j < k → a.getD j 0 = b.getD j 0) (fun k => a.length - k) 0 (by repeat' (first | exact .nil | refine .cons rfl ?_)) rfl ⟨rfl, Nat.zero_le _, fun j h => absurd h (Nat.not_lt_zero _)⟩ ?_
    rintro k H' ⟨rfl, hk, hs⟩
    dsimp only [List.cons_append, List.nil_append]
    repeat' (first | refine zP ?_ | refine zA ?_ | (refine zM ?_; intro _ _) | refine zX ?_ | (refine zC ?_; intro _ _ _ _) | (refine zS ?_; intro _ _) | (apply Ws <;> intro hg))
    refine WC.condP rfl (fun hlt => ?_) (fun hlt => ?_)
    · have hk' : k < a.length := by omega
      repeat' (first | refine zP ?_ | refine zA ?_ | (refine zM ?_; intro _ _) | refine zX ?_ | (refine zC ?_; intro _ _ _ _) | (refine zS ?_; intro _ _) | (apply Ws <;> intro hg))
      refine WC.condP rfl (fun hd => ?_) (fun hd => ?_)
      · repeat' (first | refine zP ?_ | refine zA ?_ | (refine zM ?_; intro _ _) | refine zX ?_ | (refine zC ?_; intro _ _ _ _) | (refine zS ?_; intro _ _) | (apply Ws <;> intro hg))
        refine Ends.ret1 rfl ⟨rfl, ?_⟩
        rw [decide_eq_false fun e => by subst e; exact hd rfl]
      · repeat' (first | refine zP ?_ | refine zA ?_ | (refine zM ?_; intro _ _) | refine zX ?_ | (refine zC ?_; intro _ _ _ _) | (refine zS ?_; intro _ _) | (apply Ws <;> intro hg))
        refine Ends.loop (k + 1) (by omega) (by repeat' (first | exact .nil | refine .cons rfl ?_)) rfl ⟨rfl, hk', fun j hj => ?_⟩
        by_cases e : j = k
        · subst e; exact Decidable.not_not.1 hd
        · exact hs j (by omega)
    · repeat' (first | refine zP ?_ | refine zA ?_ | (refine zM ?_; intro _ _) | refine zX ?_ | (refine zC ?_; intro _ _ _ _) | (refine zS ?_; intro _ _) | (apply Ws <;> intro hg))
      refine Ends.ret1 rfl ⟨rfl, ?_⟩
      rw [decide_eq_true (ext_getD (a := 0) hab fun i hi => hs i (by omega))]
end
end Go.Proofs.Ytdlfikobjnjmaaa.Tt

/- Numbers by ranks. -/
namespace Go.Proofs.Ytdlfikobjnjmaaa.Tt
open Go Go.Abs Go.Mth
set_option linter.unusedVariables false
set_option linter.unusedSimpArgs false
def bdN : Nat → Int
  | 0 => 0
  | 1 => 0
  | m + 2 => bdN (m + 1) + 243 * max (bdN (m + 1)) 1
theorem bdN_le {m : Nat} (h : m ≤ 6) : 0 ≤ bdN m ∧ bdN m ≤ 861322076928 := by
  rcases (show m = 0 ∨ m = 1 ∨ m = 2 ∨ m = 3 ∨ m = 4 ∨ m = 5 ∨ m = 6 by omega) with rfl | rfl | rfl | rfl | rfl | rfl | rfl <;> decide
theorem bdN_le5 {m : Nat} (h : m ≤ 5) : bdN m ≤ 4000000000 := by
  rcases (show m = 0 ∨ m = 1 ∨ m = 2 ∨ m = 3 ∨ m = 4 ∨ m = 5 by omega) with rfl | rfl | rfl | rfl | rfl | rfl <;> decide
theorem bdN_mono (m : Nat) : bdN m ≤ bdN (m + 1) := by
  cases m with
  | zero => decide
  | succ m => simp only [bdN]; omega
structure RkOK (D : Nat → Nat → Int) (n : Nat) (R : Nat → Nat) : Prop where
  lt : ∀ a, a < n → R a < n
  le : ∀ a b, a < n → b < n → 0 ≤ D a b → R b ≤ R a
  st : ∀ a b, a < n → b < n → 0 < D a b → R b < R a
structure NInv (D : Nat → Nat → Int) (n : Nat) (R : Nat → Nat) (m : Nat) (dp : Int) (B W : List Int) : Prop where
  lb : B.length = n
  lw : W.length = n
  dp0 : 0 ≤ dp
  dp1 : dp ≤ bdN m
  bb : ∀ a, a < n → n ≤ R a + m → 0 ≤ B.getD a 0 ∧ B.getD a 0 ≤ dp ∧ W.getD a 0 = max (B.getD a 0) 1
  ok : ∀ a b, a < n → b < n → n ≤ R a + m → n ≤ R b + m → B.getD a 0 + W.getD a 0 * D a b ≤ B.getD b 0
def DepR (D : Nat → Nat → Int) (n : Nat) (R : Nat → Nat) (rank : Int) (B W : List Int) (dep : Int) : Prop := 0 ≤ dep ∧
  (∀ a b, a < n → b < n → rank < R a → (R b : Int) = rank → B.getD a 0 + W.getD a 0 * D a b ≤ dep) ∧
  (dep = 0 ∨ ∃ a b, a < n ∧ b < n ∧ rank < R a ∧ (R b : Int) = rank ∧ dep = B.getD a 0 + W.getD a 0 * D a b)
def UpdR (n : Nat) (R : Nat → Nat) (rank : Int) (x : Int) (B B' : List Int) (k : Nat) : Prop := B'.length = n ∧ ∀ j, j < n → B'.getD j 0 = if j < k ∧ (R j : Int) = rank then x else B.getD j 0
theorem UpdR.zero {n : Nat} {R : Nat → Nat} {rank x : Int} {B : List Int} (h : B.length = n) : UpdR n R rank x B B 0 := ⟨h, fun j _ => by rw [if_neg (by omega)]⟩
theorem UpdR.set {n k : Nat} {R : Nat → Nat} {rank x : Int} {B B' : List Int} (h : UpdR n R rank x B B' k) (hk : k < n) (hr : (R k : Int) = rank) : UpdR n R rank x B (B'.set k x) (k + 1) := by
  refine ⟨by rw [List.length_set]; exact h.1, fun j hj => ?_⟩
  rw [getD_set' (by rw [h.1]; exact hk)]
  by_cases e : j = k
  · subst e; rw [if_pos rfl, if_pos ⟨by omega, hr⟩]
  · rw [if_neg e, h.2 j hj]
    by_cases e2 : j < k ∧ (R j : Int) = rank
    · rw [if_pos e2, if_pos ⟨by omega, e2.2⟩]
    · rw [if_neg e2, if_neg fun q => e2 ⟨by omega, q.2⟩]
theorem UpdR.skip {n k : Nat} {R : Nat → Nat} {rank x : Int} {B B' : List Int} (h : UpdR n R rank x B B' k) (hr : (R k : Int) ≠ rank) : UpdR n R rank x B B' (k + 1) := by
  refine ⟨h.1, fun j hj => ?_⟩
  rw [h.2 j hj]
  by_cases e2 : j < k ∧ (R j : Int) = rank
  · rw [if_pos e2, if_pos ⟨by omega, e2.2⟩]
  · rw [if_neg e2, if_neg fun q => e2 ⟨by
      rcases Nat.lt_or_ge j k with h1 | h1
      · exact h1
      · have : j = k := by omega
        rw [this] at q; exact absurd q.2 hr, q.2⟩]
theorem UpdR.all {n : Nat} {R : Nat → Nat} {rank x : Int} {B B' : List Int} (h : UpdR n R rank x B B' n) : ∀ j, j < n → B'.getD j 0 = if (R j : Int) = rank then x else B.getD j 0 := fun j hj => by
  rw [h.2 j hj]
  by_cases e : (R j : Int) = rank
  · rw [if_pos ⟨hj, e⟩, if_pos e]
  · rw [if_neg fun q => e q.2, if_neg e]
theorem NInv.zero {D : Nat → Nat → Int} {n : Nat} {R : Nat → Nat} (hr : RkOK D n R) {B W : List Int} (h1 : B.length = n) (h2 : W.length = n) : NInv D n R 0 0 B W :=
  ⟨h1, h2, Int.le_refl _, Int.le_refl _, fun a ha h => by have := hr.lt a ha; omega, fun a b ha _ h => by have := hr.lt a ha; omega⟩
theorem NInv.step {D : Nat → Nat → Int} {n : Nat} {R : Nat → Nat} (hD : ∀ a b, -243 ≤ D a b ∧ D a b ≤ 243) (hn : n ≤ 6) (hr : RkOK D n R) {m : Nat} (hm : m < n) {dp dep : Int} {B W B' W' : List Int} (h : NInv D n R m dp B W)
    (hd : DepR D n R ((n : Int) - 1 - m) B W dep) (hB : UpdR n R ((n : Int) - 1 - m) (max dp dep) B B' n) (hW : UpdR n R ((n : Int) - 1 - m) (max (max dp dep) 1) W W' n) : NInv D n R (m + 1) (max dp dep) B' W' := by
  have hBa := hB.all
  have hWa := hW.all
  have hdp := h.dp0
  have hdp1 := h.dp1
  have hb5 := bdN_le5 (m := m) (by omega)
  obtain ⟨hd0, hd1, hd2⟩ := hd
  have hbound : max dp dep ≤ bdN (m + 1) := by
    have h1 := bdN_mono m
    rcases hd2 with rfl | ⟨a, b, ha, hb, hra, hrb, rfl⟩
    · omega
    · have hpa : n ≤ R a + m := by omega
      obtain ⟨q1, q2, q3⟩ := h.bb a ha hpa
      have hmm : 1 ≤ m := by
        have := hr.lt a ha
        omega
      obtain ⟨m, rfl⟩ : ∃ m', m = m' + 1 := ⟨m - 1, by omega⟩
      have q4 := mul_bd (V := W.getD a 0) (D := D a b) (B := max (bdN (m + 1)) 1) (by omega) (by omega) (hD a b).1 (hD a b).2
      simp only [bdN]
      omega
  refine ⟨hB.1, hW.1, by omega, hbound, fun a ha hp => ?_, fun a b ha hb hpa hpb => ?_⟩
  · rw [hBa a ha, hWa a ha]
    by_cases e : (R a : Int) = (n : Int) - 1 - m
    · rw [if_pos e, if_pos e]; omega
    · rw [if_neg e, if_neg e]
      obtain ⟨q1, q2, q3⟩ := h.bb a ha (by omega)
      omega
  · rw [hBa a ha, hWa a ha, hBa b hb]
    by_cases e : (R a : Int) = (n : Int) - 1 - m
    · rw [if_pos e, if_pos e]
      by_cases e2 : (R b : Int) = (n : Int) - 1 - m
      · rw [if_pos e2]
        have hle : D a b ≤ 0 := by
          rcases Int.lt_or_le 0 (D a b) with hlt | hge
          · have := hr.st a b ha hb hlt; omega
          · exact hge
        have := Int.mul_nonneg (show 0 ≤ max (max dp dep) 1 by omega) (show 0 ≤ - D a b by omega)
        rw [Int.mul_neg] at this
        omega
      · rw [if_neg e2]
        have hlt : D a b ≤ -1 := by
          rcases Int.lt_or_le (D a b) 0 with hlt | hge
          · omega
          · have := hr.le a b ha hb hge; omega
        have := Int.mul_nonneg (show 0 ≤ max (max dp dep) 1 by omega) (show 0 ≤ -1 - D a b by omega)
        rw [Int.mul_sub, Int.mul_neg, Int.mul_one] at this
        have q1 := (h.bb b hb (by omega)).1
        omega
    · rw [if_neg e, if_neg e]
      by_cases e2 : (R b : Int) = (n : Int) - 1 - m
      · rw [if_pos e2]
        have := hd1 a b ha hb (by omega) e2
        omega
      · rw [if_neg e2]
        exact h.ok a b ha hb (by omega) (by omega)
def worL (dp : Int) (B : List Int) : List Int := B.map fun x => dp - x
theorem worL_len (dp : Int) (B : List Int) : (worL dp B).length = B.length := by simp [worL]
theorem worL_get {dp : Int} {B : List Int} {a : Nat} (h : a < B.length) : (worL dp B).getD a 0 = dp - B.getD a 0 := by
  rw [getD_eq (by rw [worL_len]; exact h), getD_eq h]; simp [worL]
theorem NInv.fin {P : List (List Int)} {R : Nat → Nat} {dp : Int} {B W : List Int} (hn : P.length ≤ 6) (h : NInv (DP P) P.length R P.length dp B W) : RngP P.length (worL dp B) W ∧ NumP P (worL dp B) W := by
  have hb := bdN_le hn
  have hdp := h.dp1
  have hdp0 := h.dp0
  have hlb := h.lb
  refine ⟨⟨by rw [worL_len]; exact h.lb, h.lw, fun a ha => ?_, fun a ha => ?_⟩, fun a b ha hb => ?_⟩
  · obtain ⟨q1, q2, q3⟩ := h.bb a ha (by omega)
    rw [worL_get (by omega)]; omega
  · obtain ⟨q1, q2, q3⟩ := h.bb a ha (by omega)
    omega
  · have := h.ok a b ha hb (by omega) (by omega)
    show (worL dp B).getD b 0 ≤ (worL dp B).getD a 0 - W.getD a 0 * DP P a b
    rw [worL_get (by omega), worL_get (by omega)]; omega
end Go.Proofs.Ytdlfikobjnjmaaa.Tt

/- Numbers by ranks: the walks. -/
namespace Go.Proofs.Ytdlfikobjnjmaaa.Tt
open Go Go.Abs Go.Mth
set_option linter.unusedVariables false
set_option linter.unusedSimpArgs false
attribute [local irreducible] gOK WS WC WR WD Ends FS YS OpV seqK blockK loopK midK retK rdK asgK rangeEnd sat Cell
section
variable {M : HL} {n0 : Nat} {H : Heap} {v w u x y : Value}
end
end Go.Proofs.Ytdlfikobjnjmaaa.Tt

/- Numbers, Agrees; numbered. -/
namespace Go.Abs
set_option linter.unusedSectionVars false
variable [Globs]
open Go
section
end
end Go.Abs
namespace Go.Proofs.Ytdlfikobjnjmaaa.Tt
open Go Go.Abs Go.Mth
set_option linter.unusedVariables false
set_option linter.unusedSimpArgs false
def NumOut (M : HL) (g : Int) (S : List Sal) (e : Value) : Prop := ∃ a b, e = .tuple #[a, b, .int .i64 (if errS g S ≠ 0 then errS g S else if tasteB (matS S) = true then 0 else 13)] ∧ one a = true ∧ one b = true ∧
  ((errS g S = 0 ∧ tasteB (matS S) = true ∧ ∃ W V, RngP S.length W V ∧ NumP (matS S) W V ∧ Sl M 1 a (ints W) ∧ Sl M 1 b (ints V)) ∨ ((errS g S ≠ 0 ∨ tasteB (matS S) = false) ∧ a = .slice none 0 0 ∧ b = .slice none 0 0))
def AgrOut (g : Int) (S : List Sal) (W V : List Int) (c : Int) : Prop := (errS g S ≠ 0 ∧ c = errS g S) ∨ (errS g S = 0 ∧ ((¬ (W.length = S.length ∧ V.length = S.length) ∧ c = 5) ∨ ((W.length = S.length ∧ V.length = S.length) ∧
  ((¬ (withB 0 1000000000000 W = true ∧ withB 1 1000000000000 V = true) ∧ c = 1) ∨ ((withB 0 1000000000000 W = true ∧ withB 1 1000000000000 V = true) ∧ ((¬ NumP (matS S) W V ∧ c = 14) ∨ (NumP (matS S) W V ∧ c = 0)))))))
theorem AgrOut.unique {g : Int} {S : List Sal} {W V : List Int} {c c' : Int} (h : AgrOut g S W V c) (k : AgrOut g S W V c') : c = c' := by
  rcases h with ⟨q1, rfl⟩ | ⟨q1, ⟨q2, rfl⟩ | ⟨q2, ⟨q3, rfl⟩ | ⟨q3, ⟨q4, rfl⟩ | ⟨q4, rfl⟩⟩⟩⟩ <;>
  rcases k with ⟨p1, rfl⟩ | ⟨p1, ⟨p2, rfl⟩ | ⟨p2, ⟨p3, rfl⟩ | ⟨p3, ⟨p4, rfl⟩ | ⟨p4, rfl⟩⟩⟩⟩ <;> first | rfl | contradiction
attribute [local irreducible] gOK WS WC WR WD Ends FS YS OpV seqK blockK loopK midK retK rdK asgK rangeEnd sat Cell
section
variable {M : HL} {n0 : Nat} {H : Heap} {v w u : Value}
end
end Go.Proofs.Ytdlfikobjnjmaaa.Tt

/- Pairs of numbers that are compared. -/
namespace Go.Abs
set_option linter.unusedSectionVars false
variable [Globs]
open Go
set_option linter.unusedSimpArgs false
theorem pureRun_pure {α : Type} (P : Program) (a : α) : pureRun P (pure a : Sem α) = some a := rfl
section
variable {C : CW} {L : Env} {H : Heap}
end
section
variable {C : CW} {L : Env} {H : Heap}
theorem OpV.eqB {dst : Option Tmp} {x y : Operand} {ty ty2 ty3 : TypeId} {pos : String} {af : Array Edge} {g : Option (Nat × Bool)} {a b : Bool} (e2 : pureRun C.c.P (binOp .eql ty (.bool a) (.bool b)) = some (.bool (a == b))) (hx : ev L x = some (.bool a)) (hy : ev L y = some (.bool b)) :
    OpV C (.plain ⟨dst, .binOp .eql ty x y ty2, ty3, pos, af, g⟩) L H (.bool (a == b)) H := by
  refine OpV.plain (fun t ht => ?_) (fun t ht => by simp [Op.operands, ev_ok ht hx, ev_ok ht hy, plainV, plain1]) rfl
  have e1 : pureRun C.c.P (eqGuard .eql ty x y (.bool a) (.bool b)) = some () := rfl
  simp only [pureNext, execOp, ev_ok ht hx, ev_ok ht hy, pureRun_bind, e1, e2, Option.bind_some]
  rfl
end
end Go.Abs

/- What the laws share. -/
namespace Go.Abs
set_option linter.unusedSectionVars false
open Go
section
variable [Globs] {C : CW} {nt : Nat} {L : Env} {D : List Nat} {H H' : Heap} {K : St → Prop} {M M' : HL} {n i d : Nat} {gd : Option (Tmp × Bool)} {lo : List Nat} {l : List POp} {rs : List Rd}
theorem WD.append {e sz : Nat} {s x : Operand} {v y : Value} {cs : List Value} {Mx M0 : HL} {k : Nat} {new : List Value} (hg : gOK L gd) (hd : Nat.blt d nt = true) (hs : ev L s = some v) (hy : ev L x = some y)
    (hO : Own e sz v cs Mx) (hH : hasH M n H) (hM : M'.Sublist M) (hp : M'.Perm (Mx ++ M0)) (hk : srcLen y = some k) (hx : srcCells H sz k y = some new) (hl : new.length = k * sz) (h1 : 1 ≤ k) (hone : new.all one = true) (hs1 : 1 ≤ sz) (hs2 : sz ≤ 1000)
    (hsm : cs.length + new.length ≤ 100000) (kk : ∀ v' Mx' n' H', OwnR e sz v' (cs ++ new) Mx' → hasH (Mx' ++ M0) n' H' → n ≤ n' → stands H' lo rs = true ∧ WD C nt l rs ((d, v') :: L) D H' K) :
    WD C nt (⟨i, some d, .append e sz s x, gd, lo⟩ :: l) rs L D H K := by
  obtain ⟨v', Mx', n', H', q1, q2, q3, q4⟩ := append_ownR (P := C.c.P) hO ((hH.sub hM).perm hp) hk hx hl h1 hone hs1 hs2 hsm
  obtain ⟨k1, k2⟩ := kk v' Mx' n' H' q2 q3 q4
  refine WD.op hg hd (H' := H') (v := v') (fun t ht => ?_) rfl k1 k2
  simp only [opA, ev_ok ht hs, ev_ok ht hy, q1]
theorem WD.append1F {j d2 : Nat} {e : Nat} {z : List Value} {s x : Operand} {lo2 : List Nat} {v y : Value} {cs : List Value} {new : Value} (F Mx T : HL) (hd : Nat.blt d nt = true) (hd2 : Nat.blt d2 nt = true)
    (hx : ev L x = some y) (hs : ev ((d, .slice (some ⟨n, 0, some 0⟩) 1 (2 * 1 + 1)) :: L) s = some v) (hO : Own e 1 v cs Mx) (hH : hasH (F ++ (Mx ++ T)) n H)
    (hc : Instr.fill (fun j => some (j * 1, 1)) z.toArray [(0, y)] = some [new].toArray) (hone : one new = true) (hsm : cs.length + 1 ≤ 100000)
    (hst : ∀ H', hasH ((n, .row e 0 0 [new]) :: (F ++ (Mx ++ T))) (n + 1) H' → stands H' lo rs = true)
    (kk : ∀ v' Mx' n' H', OwnR e 1 v' (cs ++ [new]) Mx' → hasH (F ++ (Mx' ++ T)) n' H' → n ≤ n' → stands H' lo2 rs = true ∧ WD C nt l rs ((d2, v') :: (d, .slice (some ⟨n, 0, some 0⟩) 1 (2 * 1 + 1)) :: L) D H' K) :
    WD C nt (⟨i, some d, .bldS e 1 z 1 [(0, x)], none, lo⟩ :: ⟨j, some d2, .append e 1 s (.tmp d), none, lo2⟩ :: l) rs L D H K := by
  refine WD.bldS True.intro hd hH (vs := [(0, y)]) (by simp only [evp, hx]) hc (by simp [hone]) hst fun H1 hH1 => ?_
  have hx2 : srcCells H1 1 1 (.slice (some ⟨n, 0, some 0⟩) 1 (2 * 1 + 1)) = some [new] := by
    have := hH1.readN (b := n) (u := 0) (lo := 0) (o := 0) (k := 1 * 1) (ch := .row e 0 0 [new]) (cs := [new]) (by simp) (.row _ _ _ _) (Nat.le_refl _) (by simp)
    simpa [srcCells] using this
  have hy : ev ((d, .slice (some ⟨n, 0, some 0⟩) 1 (2 * 1 + 1)) :: L) (.tmp d) = some (.slice (some ⟨n, 0, some 0⟩) 1 (2 * 1 + 1)) := by simp [ev, Env.get]
  refine WD.append True.intro hd2 hs hy hO hH1 (M' := F ++ (Mx ++ T)) (List.sublist_cons_self _ _) (M0 := F ++ T) (List.perm_append_comm_assoc F Mx T) rfl hx2 (by simp) (Nat.le_refl _) (by simp [hone]) (Nat.le_refl _) (by omega) (by simpa using hsm) fun v' Mx' n' H' q1 q2 q3 => ?_
  exact kk v' Mx' n' H' q1 (q2.perm (List.perm_append_comm_assoc Mx' F T)) (by omega)
end
end Go.Abs
namespace Go.Proofs.Ytdlfikobjnjmaaa.Tt
open Go Go.Abs Go.Mth
set_option linter.unusedVariables false
set_option linter.unusedSimpArgs false
theorem eqlB : ∀ a b : Bool, pureRun C.c.P (binOp .eql 4 (.bool a) (.bool b)) = some (.bool (a == b)) := by
  intro a b
  cases a <;> cases b <;> kernel_rfl
theorem numsK_one (kk : IntKind) (l : List Nat) : (numsK kk l).all one = true := by
  rw [List.all_eq_true]; intro q hq; obtain ⟨z, _, rfl⟩ := List.mem_map.1 hq; rfl
theorem err0 {g : Nat} {S : List Sal} (h : OKS g S) : errS (g : Int) S = 0 := errS_zero.2 ⟨g, rfl, h⟩
theorem NumOut.ok {M : HL} {g : Nat} {S : List Sal} {e : Value} (hok : OKS g S) (h : NumOut M g S e) : ∃ a b, one a = true ∧ one b = true ∧ ((tasteB (matS S) = true ∧ e = .tuple #[a, b, .int .i64 0] ∧ ∃ W V, RngP S.length W V ∧ NumP (matS S) W V ∧ Sl M 1 a (ints W) ∧ Sl M 1 b (ints V)) ∨
    (tasteB (matS S) = false ∧ a = .slice none 0 0 ∧ b = .slice none 0 0 ∧ e = .tuple #[a, b, .int .i64 13])) := by
  obtain ⟨a, b, he, ha, hb, hc⟩ := h
  rw [if_neg (not_not_intro (err0 hok))] at he
  refine ⟨a, b, ha, hb, ?_⟩
  rcases hc with ⟨_, h2, h3⟩ | ⟨h1, h2, h3⟩
  · rw [if_pos h2] at he; exact .inl ⟨h2, he, h3⟩
  · rcases h1 with h1 | h1
    · exact absurd (err0 hok) h1
    · rw [h1, if_neg (by decide)] at he; exact .inr ⟨h1, h2, h3, he⟩
theorem RingOut.ok {M : HL} {g : Nat} {S : List Sal} {e : Value} (hok : OKS g S) (h : RingOut M g S e) : ∃ u, one u = true ∧ ((tasteB (matS S) = true ∧ u = .slice none 0 0 ∧ e = .tuple #[u, .int .i64 13]) ∨ (tasteB (matS S) = false ∧ e = .tuple #[u, .int .i64 0] ∧ ∃ z, firstRing (matS S) = some z ∧ Sl M 1 u (nodes z))) := by
  obtain ⟨u, he, hu, hc⟩ := h
  rw [if_neg (not_not_intro (err0 hok))] at he
  refine ⟨u, hu, ?_⟩
  rcases hc with ⟨_, z, h2, h3⟩ | ⟨h1, h2⟩
  · have htb : tasteB (matS S) = false := by rw [tasteB, h2]; rfl
    rw [htb, if_neg (by decide)] at he
    exact .inr ⟨htb, he, z, h2, h3⟩
  · rcases h1 with h1 | h1
    · exact absurd (err0 hok) h1
    · rw [if_pos h1] at he; exact .inl ⟨h1, h2, he⟩
theorem RanksOut.ok {M : HL} {g : Nat} {S : List Sal} {e : Value} (hok : OKS g S) (h : RanksOut M g S e) : ∃ u, one u = true ∧ ((tasteB (matS S) = false ∧ u = .slice none 0 0 ∧ e = .tuple #[u, .int .i64 13]) ∨ (tasteB (matS S) = true ∧ e = .tuple #[u, .int .i64 0] ∧ Sl M 1 u (nodes (rkL (DP (matS S)) S.length)))) := by
  obtain ⟨u, he, hu, hc⟩ := h
  rw [if_neg (not_not_intro (err0 hok))] at he
  refine ⟨u, hu, ?_⟩
  rcases hc with ⟨_, h2, h3⟩ | ⟨h1, h2⟩
  · rw [if_pos h2] at he
    rw [matS_len] at h3
    exact .inr ⟨h2, he, h3⟩
  · rcases h1 with h1 | h1
    · exact absurd (err0 hok) h1
    · rw [h1, if_neg (by decide)] at he; exact .inl ⟨h1, h2, he⟩
theorem ring_facts {S : List Sal} {z : List Nat} (h : firstRing (matS S) = some z) : 1 ≤ z.length ∧ z.length ≤ S.length ∧ (∀ x ∈ z, x < S.length) ∧ closL (DP (matS S)) z := by
  have hk := firstRing_least h
  have hl := hk.1.1.len
  rw [matS_len] at hl
  refine ⟨hl.1, hl.2, fun x hx => ?_, hk.1.1.2.2.1, hk.1.2⟩
  have := hk.1.1.2.1 x hx
  rwa [matS_len] at this
end Go.Proofs.Ytdlfikobjnjmaaa.Tt

/- The fewest sales that have to be left out. -/
namespace Go.Proofs.Ytdlfikobjnjmaaa.Tt
open Go Go.Abs Go.Mth
set_option linter.unusedVariables false
set_option linter.unusedSimpArgs false
def outK (s k : Nat) : List Nat := (List.range k).filter fun i => s.testBit i
def keepK (s k : Nat) : List Nat := (List.range k).filter fun i => !s.testBit i
theorem outK_succ (s k : Nat) : outK s (k + 1) = outK s k ++ if s.testBit k = true then [k] else [] := by
  unfold outK
  rw [List.range_succ, List.filter_append]
  congr 1
  by_cases h : s.testBit k = true
  · rw [if_pos h]; simp only [List.filter, h]
  · rw [if_neg h, Bool.not_eq_true] at *; simp only [List.filter, h]
theorem keepK_succ (s k : Nat) : keepK s (k + 1) = keepK s k ++ if s.testBit k = true then [] else [k] := by
  unfold keepK
  rw [List.range_succ, List.filter_append]
  congr 1
  by_cases h : s.testBit k = true
  · rw [if_pos h]; simp only [List.filter, h, Bool.not_true]
  · rw [if_neg h, Bool.not_eq_true] at *; simp only [List.filter, h, Bool.not_false]
theorem outK_len (s k : Nat) : (outK s k).length ≤ k := Nat.le_trans (List.length_filter_le _ _) (by simp)
theorem keepK_len (s k : Nat) : (keepK s k).length ≤ k := Nat.le_trans (List.length_filter_le _ _) (by simp)
theorem outK_lt {s k : Nat} : ∀ x ∈ outK s k, x < k := fun x hx => List.mem_range.1 (List.mem_filter.1 hx).1
theorem keepK_lt {s k : Nat} : ∀ x ∈ keepK s k, x < k := fun x hx => List.mem_range.1 (List.mem_filter.1 hx).1
theorem mem_outK {s k x : Nat} : x ∈ outK s k ↔ x < k ∧ s.testBit x = true := by simp [outK]
theorem mem_keepK {s k x : Nat} : x ∈ keepK s k ↔ x < k ∧ s.testBit x = false := by simp [keepK]
def pickR (P : List (List Int)) (K : List Nat) (a : Nat) : List Int := K.map fun b => (P.getD a []).getD b 0
def pickP (P : List (List Int)) (K : List Nat) : List (List Int) := K.map (pickR P K)
theorem pickR_len (P : List (List Int)) (K : List Nat) (a : Nat) : (pickR P K a).length = K.length := by simp [pickR]
theorem pickP_len (P : List (List Int)) (K : List Nat) : (pickP P K).length = K.length := by simp [pickP]
theorem pickP_get {P : List (List Int)} {K : List Nat} {i : Nat} (h : i < K.length) : (pickP P K).getD i [] = pickR P K (K.getD i 0) := by
  rw [getD_eq (by rw [pickP_len]; exact h), getD_eq h]; simp [pickP]
theorem pickR_get {P : List (List Int)} {K : List Nat} {a j : Nat} (h : j < K.length) : (pickR P K a).getD j 0 = (P.getD a []).getD (K.getD j 0) 0 := by
  rw [getD_eq (by rw [pickR_len]; exact h), getD_eq h]; simp [pickR]
theorem SqP.pick {P : List (List Int)} {K : List Nat} (h : SqP P) (hK : K.length ≤ 6) : SqP (pickP P K) := by
  refine ⟨by rw [pickP_len]; exact hK, fun i hi => ?_, fun i j => ?_⟩
  · rw [pickP_len] at hi ⊢; rw [pickP_get hi, pickR_len]
  · by_cases hi : i < K.length
    · rw [pickP_get hi]
      by_cases hj : j < K.length
      · rw [pickR_get hj]; exact h.bd _ _
      · rw [List.getD_eq_getElem?_getD (l := pickR _ _ _), List.getElem?_eq_none (by rw [pickR_len]; omega)]; decide
    · rw [List.getD_eq_getElem?_getD (l := pickP P K), List.getElem?_eq_none (by rw [pickP_len]; omega)]; simp
theorem pick_DP {P : List (List Int)} {K : List Nat} {i j : Nat} (hi : i < K.length) (hj : j < K.length) : DP (pickP P K) i j = DP P (K.getD i 0) (K.getD j 0) := by
  unfold DP; rw [pickP_get hi, pickR_get hi, pickR_get hj]
def pickS (S : List Sal) (K : List Nat) : List Sal := K.map fun i => S.getD i noSal
theorem pickS_len (S : List Sal) (K : List Nat) : (pickS S K).length = K.length := by simp [pickS]
theorem pickS_get {S : List Sal} {K : List Nat} {i : Nat} (h : i < K.length) : (pickS S K).getD i noSal = S.getD (K.getD i 0) noSal := by
  rw [getD_eq (by rw [pickS_len]; exact h), getD_eq h]; simp [pickS]
theorem OKS.pick {g : Nat} {S : List Sal} {K : List Nat} (h : OKS g S) (hK : ∀ x ∈ K, x < S.length) (hl : K.length ≤ 6) : OKS g (pickS S K) := by
  have key : ∀ i, i < (pickS S K).length → (pickS S K).getD i noSal = S.getD (K.getD i 0) noSal ∧ K.getD i 0 < S.length := fun i hi => by
    rw [pickS_len] at hi
    exact ⟨pickS_get hi, hK _ (getD_mem hi)⟩
  refine ⟨h.g1, h.g3, by rw [pickS_len]; exact hl, fun i hi => ?_, fun i hi => ?_, fun i hi => ?_, fun i hi => ?_⟩ <;> obtain ⟨k1, k2⟩ := key i hi <;> rw [k1]
  · exact h.lp _ k2
  · exact h.lt _ k2
  · exact h.bp _ k2
  · exact h.bt _ k2
def okW (P : List (List Int)) (s : Nat) : Bool := tasteB (pickP P (keepK s P.length))
def WrongP (P : List (List Int)) (l : List Nat) : Prop := ∃ s, s < 2 ^ P.length ∧ okW P s = true ∧ l = outK s P.length
def BestW (P : List (List Int)) (l : List Nat) : Prop := LeastP (WrongP P) l
structure WInv (P : List (List Int)) (k : Nat) (l : List Nat) : Prop where
  is : WrongP P l
  no : ∀ s, s < k → okW P s = true → ¬ ordN (outK s P.length) l
theorem ordN_trans_not {a b c : List Nat} (h : ordN a b) (k : ¬ ordN c b) : ¬ ordN c a := by
  intro q
  apply k
  rcases q with q | ⟨q1, q2⟩ <;> rcases h with h | ⟨h1, h2⟩
  · exact .inl (by omega)
  · exact .inl (by omega)
  · exact .inl (by omega)
  · refine .inr ⟨by omega, ?_⟩
    rw [← lexN_C] at q2 h2 ⊢
    exact lex_trans _ _ _ q2 h2
theorem full_all {n : Nat} : ∀ i, i < n → (2 ^ n - 1).testBit i = true := fun i hi => by
  rw [Nat.testBit_two_pow_sub_one]; simpa using hi
theorem keep_full (n : Nat) : keepK (2 ^ n - 1) n = [] := by
  rw [List.eq_nil_iff_forall_not_mem]
  intro x hx
  obtain ⟨h1, h2⟩ := mem_keepK.1 hx
  rw [full_all x h1] at h2; cases h2
theorem WInv.zero (P : List (List Int)) : WInv P 0 (outK (2 ^ P.length - 1) P.length) :=
  ⟨⟨_, Nat.sub_lt (Nat.two_pow_pos _) (by omega), by rw [okW, keep_full]; rfl, rfl⟩, fun s h => absurd h (Nat.not_lt_zero _)⟩
theorem WInv.take {P : List (List Int)} {k : Nat} {l : List Nat} (h : WInv P k l) (hk : k < 2 ^ P.length) (hok : okW P k = true) (ho : ordN (outK k P.length) l) : WInv P (k + 1) (outK k P.length) := by
  refine ⟨⟨k, hk, hok, rfl⟩, fun s hs hsk => ?_⟩
  by_cases e : s = k
  · rw [e]; exact ordN_irr _
  · exact ordN_trans_not ho (h.no s (by omega) hsk)
theorem WInv.skip {P : List (List Int)} {k : Nat} {l : List Nat} (h : WInv P k l) (ho : ¬ (okW P k = true ∧ ordN (outK k P.length) l)) : WInv P (k + 1) l := by
  refine ⟨h.is, fun s hs hsk => ?_⟩
  by_cases e : s = k
  · rw [e] at hsk ⊢; exact fun q => ho ⟨hsk, q⟩
  · exact h.no s (by omega) hsk
theorem out_ge {P : List (List Int)} {l : List Nat} (h : WrongP P l) : ¬ ordN (outK (2 ^ P.length - 1) P.length) l := by
  obtain ⟨s, hs, _, rfl⟩ := h
  have hfull : outK (2 ^ P.length - 1) P.length = List.range P.length := List.filter_eq_self.2 fun x hx => full_all x (List.mem_range.1 hx)
  rw [hfull]
  intro q
  have hle := outK_len s P.length
  rcases q with q | ⟨q1, q2⟩
  · rw [List.length_range] at q; omega
  · rw [List.length_range] at q1
    have : outK s P.length = List.range P.length := by
      have hsub : (outK s P.length).Sublist (List.range P.length) := List.filter_sublist
      exact hsub.eq_of_length (by rw [List.length_range]; omega)
    rw [this] at q2
    exact lexN_irr _ q2
theorem WInv.fin {P : List (List Int)} {l : List Nat} (h : WInv P (2 ^ P.length - 1) l) : BestW P l := by
  refine ⟨h.is, fun m ⟨s, hs, hok, hm⟩ => ?_⟩
  by_cases e : s = 2 ^ P.length - 1
  · rw [hm, e]; exact out_ge h.is
  · rw [hm]; exact h.no s (by omega) hok
theorem WInv.fin' {P : List (List Int)} {l : List Nat} (h : WInv P (2 ^ P.length) l) : BestW P l :=
  ⟨h.is, fun m ⟨s, hs, hok, hm⟩ => by rw [hm]; exact h.no s hs hok⟩
theorem WrongP.len {P : List (List Int)} {l : List Nat} (h : WrongP P l) : l.length ≤ P.length ∧ ∀ x ∈ l, x < P.length := by
  obtain ⟨s, _, _, rfl⟩ := h
  exact ⟨outK_len _ _, outK_lt⟩
structure DV where
  k : Nat
  a : Value
  b : Value
  Ma : HL
  Mb : HL
  n : Nat
structure WV where
  k : Nat
  v : Value
  l : List Nat
  Mx : HL
  n : Nat
end Go.Proofs.Ytdlfikobjnjmaaa.Tt

/- divide, only, isBefore, wrong, Wrong. -/
namespace Go.Proofs.Ytdlfikobjnjmaaa.Tt
open Go Go.Abs Go.Mth
set_option linter.unusedVariables false
set_option linter.unusedSimpArgs false
theorem bit_and1 (c a : Nat) : decide (((((c >>> a) &&& 1 : Nat) : Int)) = 1) = c.testBit a := by
  by_cases h : c.testBit a = true
  · rw [h, decide_eq_true (shr_and_one.2 h)]
  · rw [Bool.not_eq_true] at h
    rw [h, decide_eq_false fun k => by rw [shr_and_one.1 k] at h; cases h]
attribute [local irreducible] gOK WS WC WR WD Ends FS YS OpV seqK blockK loopK midK retK rdK asgK rangeEnd sat Cell
section
variable {M : HL} {n0 : Nat} {H : Heap} {v w : Value}
set_option maxHeartbeats 1000000 in
theorem divide_fs (hH : hasH M n0 H) {P : List (List Int)} (hP : SqP P) (hR : RowsI M v P) {s : Nat} (hs : s < 2 ^ P.length) :
    FS C 39 [v, .int .i64 (s : Int)] H (fun e H' => ∃ n' a b Ma Mb, n0 ≤ n' ∧ hasH (Ma ++ (Mb ++ M)) n' H' ∧ Own 3 1 a (nodes (outK s P.length)) Ma ∧ Own 3 1 b (nodes (keepK s P.length)) Mb ∧ e = .tuple #[a, b]) := by
  obtain ⟨cws, hcS, hcl, hcrow⟩ := hR
  have hlen6 := hP.len
  have hs64 : s < 64 := Nat.lt_of_lt_of_le hs (Nat.pow_le_pow_right (by omega) hlen6)
  refine FS.intro (pf := pf39) rfl rfl rfl ?_
  repeat' (first | refine zP ?_ | refine zA ?_ | (refine zM ?_; intro _ _) | refine zX ?_ | (refine zC ?_; intro _ _ _ _) | (refine zS ?_; intro _ _) | (apply Ws <;> intro hg))
  rw [hcl]
  refine WC.loopX [(0, _), (1, _), (8, _)] (fun z : DV => [(4, z.a), (5, z.b), (9, .int .i64 (z.k : Int))]) [] (fun z H' => z.k ≤ P.length ∧ n0 ≤ z.n ∧ Own 3 1 z.a (nodes (outK s z.k)) z.Ma ∧ Own 3 1 z.b (nodes (keepK s z.k)) z.Mb ∧ hasH (z.Ma ++ (z.Mb ++ M)) z.n H') (fun z => P.length - z.k) ⟨0, .slice none 0 0, .slice none 0 0, [], [], n0⟩ (by repeat' (first | exact .nil | refine .cons rfl ?_)) rfl
    ⟨Nat.zero_le _, Nat.le_refl _, .nil, .nil, hH⟩ ?_
  clear hH
  rintro ⟨k, va, vb, Ma, Mb, n1⟩ H1 ⟨hk, hn1, hOa, hOb, hH1⟩
  simp only at hk hn1 hOa hOb hH1
  dsimp only [List.cons_append, List.nil_append]
  repeat' (first | refine zP ?_ | refine zA ?_ | (refine zM ?_; intro _ _) | refine zX ?_ | (refine zC ?_; intro _ _ _ _) | (refine zS ?_; intro _ _) | (apply Ws <;> intro hg))
  refine WC.condP rfl (fun hltk => ?_) (fun hltk => ?_)
  · have hk' : k < P.length := by omega
    have hl1 := outK_len s k
    have hl2 := keepK_len s k
    have hsu1 := outK_succ s k
    have hsu2 := keepK_succ s k
    repeat' (first | refine zP ?_ | refine zA ?_ | (refine zM ?_; intro _ _) | refine zX ?_ | (refine zC ?_; intro _ _ _ _) | (refine zS ?_; intro _ _) | (apply Ws <;> intro hg))
    refine WR.op (by first | exact gN | exact gS rfl) rfl (OpV.shrN rfl rfl (by show k ≤ 64; omega)) ?_
    repeat' (first | refine zP ?_ | refine zA ?_ | (refine zM ?_; intro _ _) | refine zX ?_ | (refine zC ?_; intro _ _ _ _) | (refine zS ?_; intro _ _) | (apply Ws <;> intro hg))
    have hsh : s >>> k ≤ s := by rw [Nat.shiftRight_eq_div_pow]; exact Nat.div_le_self _ _
    refine WR.op (by first | exact gN | exact gS rfl) rfl (OpV.andN (b := 1) rfl rfl (by show s >>> k < 2 ^ 63; omega) (by decide)) ?_
    repeat' (first | refine zP ?_ | refine zA ?_ | (refine zM ?_; intro _ _) | refine zX ?_ | (refine zC ?_; intro _ _ _ _) | (refine zS ?_; intro _ _) | (apply Ws <;> intro hg))
    rw [bit_and1]
    cases hbt : s.testBit k with
    | true =>
      rw [if_pos hbt] at hsu1 hsu2
      rw [List.append_nil] at hsu2
      repeat' (first | refine zP ?_ | refine zA ?_ | (refine zM ?_; intro _ _) | refine zX ?_ | (refine zC ?_; intro _ _ _ _) | (refine zS ?_; intro _ _) | (apply Ws <;> intro hg))
      refine WR.append1F [] Ma (Mb ++ M) rfl rfl rfl rfl hOa hH1 (new := [.int .i64 (k : Int)]) (by rfl) rfl rfl (Nat.le_refl _) (by omega) (by simp; omega) fun v3 M3 n3 H9 hO3 hH9 hn3 => ?_
      repeat' (first | refine zP ?_ | refine zA ?_ | (refine zM ?_; intro _ _) | refine zX ?_ | (refine zC ?_; intro _ _ _ _) | (refine zS ?_; intro _ _) | (apply Ws <;> intro hg))
      refine Ends.loop ⟨k + 1, v3, vb, M3, Mb, n3⟩ (by simp only; omega) (by repeat' (first | exact .nil | refine .cons rfl ?_)) rfl ⟨by simp only; omega, by simp only; omega, ?_, by simp only; rw [hsu2]; exact hOb, hH9⟩
      simp only
      rw [hsu1, show nodes (outK s k ++ [k]) = nodes (outK s k) ++ [.int .i64 (k : Int)] by simp [nodes]]; exact hO3
    | false =>
      rw [if_neg (by rw [hbt]; decide)] at hsu1 hsu2
      rw [List.append_nil] at hsu1
      repeat' (first | refine zP ?_ | refine zA ?_ | (refine zM ?_; intro _ _) | refine zX ?_ | (refine zC ?_; intro _ _ _ _) | (refine zS ?_; intro _ _) | (apply Ws <;> intro hg))
      refine WR.append1F Ma Mb M rfl rfl rfl rfl hOb hH1 (new := [.int .i64 (k : Int)]) (by rfl) rfl rfl (Nat.le_refl _) (by omega) (by simp; omega) fun v3 M3 n3 H9 hO3 hH9 hn3 => ?_
      repeat' (first | refine zP ?_ | refine zA ?_ | (refine zM ?_; intro _ _) | refine zX ?_ | (refine zC ?_; intro _ _ _ _) | (refine zS ?_; intro _ _) | (apply Ws <;> intro hg))
      refine Ends.loop ⟨k + 1, va, v3, Ma, M3, n3⟩ (by simp only; omega) (by repeat' (first | exact .nil | refine .cons rfl ?_)) rfl ⟨by simp only; omega, by simp only; omega, by simp only; rw [hsu1]; exact hOa, ?_, hH9⟩
      simp only
      rw [hsu2, show nodes (keepK s k ++ [k]) = nodes (keepK s k) ++ [.int .i64 (k : Int)] by simp [nodes]]; exact hO3
  · have hkl : k = P.length := by omega
    subst hkl
    repeat' (first | refine zP ?_ | refine zA ?_ | (refine zM ?_; intro _ _) | refine zX ?_ | (refine zC ?_; intro _ _ _ _) | (refine zS ?_; intro _ _) | (apply Ws <;> intro hg))
    exact Ends.ret2 rfl rfl ⟨n1, va, vb, Ma, Mb, hn1, hH1, hOa, hOb, rfl⟩
set_option maxHeartbeats 2000000 in
theorem only_fs (hH : hasH M n0 H) {P : List (List Int)} (hP : SqP P) (hR : RowsI M v P) {K : List Nat} (hK : Sl M 1 w (nodes K)) (hKl : K.length ≤ 6) (hKb : ∀ x ∈ K, x < P.length) :
    FS C 41 [v, w] H (fun e H' => ∃ n' M2, n0 ≤ n' ∧ hasH (M2 ++ M) n' H' ∧ RowsI (M2 ++ M) e (pickP P K)) := by
  obtain ⟨cws, hcS, hcl, hcrow⟩ := hR
  have hlen6 := hP.len
  have hpl := pickP_len P K
  refine FS.intro (pf := pf41) rfl rfl rfl ?_
  repeat' (first | refine zP ?_ | refine zA ?_ | (refine zM ?_; intro _ _) | refine zX ?_ | (refine zC ?_; intro _ _ _ _) | (refine zS ?_; intro _ _) | (apply Ws <;> intro hg))
  refine WC.loopX [(0, _), (1, _), (11, _), (12, _)] (fun s : CO => [(5, s.v), (13, .int .i64 (s.a : Int))]) [] (fun s H' => s.a ≤ K.length ∧ n0 ≤ s.n ∧ Own 29 1 s.v s.ws s.Mo ∧ RowsP (s.Mi ++ M) s.ws ((pickP P K).take s.a) ∧ hasH (s.Mo ++ (s.Mi ++ M)) s.n H') (fun s => K.length - s.a) ⟨0, .slice none 0 0, [], [], [], n0⟩ (by repeat' (first | exact .nil | refine .cons rfl ?_)) rfl
    ⟨Nat.zero_le _, Nat.le_refl _, .nil, .nil _, hH⟩ ?_
  clear hH
  rintro ⟨a, va, ws, Mo, Mi, n1⟩ H1 ⟨ha, hn1, hO, hRr, hH1⟩
  simp only at ha hn1 hO hRr hH1
  have hK1 : Sl (Mo ++ (Mi ++ M)) 1 w (nodes K) := hK.mono fun q hq => List.mem_append_right _ (List.mem_append_right _ hq)
  dsimp only [List.cons_append, List.nil_append]
  repeat' (first | refine zP ?_ | refine zA ?_ | (refine zM ?_; intro _ _) | refine zX ?_ | (refine zC ?_; intro _ _ _ _) | (refine zS ?_; intro _ _) | (apply Ws <;> intro hg))
  refine WC.condP rfl (fun hlta => ?_) (fun hlta => ?_)
  · have ha' : a < K.length := by omega
    have hka := hKb _ (getD_mem (a := 0) ha')
    have hrl := pickR_len P K (K.getD a 0)
    repeat' (first | refine zP ?_ | refine zA ?_ | (refine zM ?_; intro _ _) | refine zX ?_ | (refine zC ?_; intro _ _ _ _) | (refine zS ?_; intro _ _) | (apply Ws <;> intro hg))
    clear hK1
    refine WC.loopX [(0, _), (1, _), (5, _), (7, .int .i64 (K.getD a 0 : Nat)), (11, _), (12, _), (13, .int .i64 (a : Int)), (17, w), (18, _)] (fun s : CI => [(8, s.v), (19, .int .i64 (s.b : Int))]) [] (fun s H' => s.b ≤ K.length ∧ n1 ≤ s.n ∧ Own 3 1 s.v (ints ((pickR P K (K.getD a 0)).take s.b)) s.Mr ∧ hasH (s.Mr ++ (Mo ++ (Mi ++ M))) s.n H') (fun s => K.length - s.b) ⟨0, .slice none 0 0, [], [], n1⟩ (by repeat' (first | exact .nil | refine .cons rfl ?_)) rfl
      ⟨Nat.zero_le _, Nat.le_refl _, .nil, hH1⟩ ?_
    clear hH1
    rintro ⟨b, vb, Mr, _, n2⟩ H5 ⟨hb, hn2, hOr, hH5⟩
    simp only at hb hn2 hOr hH5
    have hK2 : Sl (Mr ++ (Mo ++ (Mi ++ M))) 1 w (nodes K) := hK.mono fun q hq => List.mem_append_right _ (List.mem_append_right _ (List.mem_append_right _ hq))
    dsimp only [List.cons_append, List.nil_append]
    repeat' (first | refine zP ?_ | refine zA ?_ | (refine zM ?_; intro _ _) | refine zX ?_ | (refine zC ?_; intro _ _ _ _) | (refine zS ?_; intro _ _) | (apply Ws <;> intro hg))
    refine WC.condP rfl (fun hltb => ?_) (fun hltb => ?_)
    · have hb' : b < K.length := by omega
      have hkb := hKb _ (getD_mem (a := 0) hb')
      have hcS2 : Sl (Mr ++ (Mo ++ (Mi ++ M))) 1 v cws := hcS.mono fun q hq => List.mem_append_right _ (List.mem_append_right _ (List.mem_append_right _ hq))
      have hcr := (hcrow _ hka).mono (M' := Mr ++ (Mo ++ (Mi ++ M))) fun q hq => List.mem_append_right _ (List.mem_append_right _ (List.mem_append_right _ hq))
      have hprl := hP.row _ hka
      have hpg := pickR_get (P := P) (a := K.getD a 0) hb'
      repeat' (first | refine zP ?_ | refine zA ?_ | (refine zM ?_; intro _ _) | refine zX ?_ | (refine zC ?_; intro _ _ _ _) | (refine zS ?_; intro _ _) | (apply Ws <;> intro hg))
      rw [← hpg]
      refine WR.append1F [] Mr (Mo ++ (Mi ++ M)) rfl rfl rfl rfl hOr hH5 (new := [.int .i64 ((pickR P K (K.getD a 0)).getD b 0)]) (by rfl) rfl rfl (Nat.le_refl _) (by omega) (by simp [hrl]; omega) fun v3 M3 n3 H9 hO3 hH9 hn3 => ?_
      repeat' (first | refine zP ?_ | refine zA ?_ | (refine zM ?_; intro _ _) | refine zX ?_ | (refine zC ?_; intro _ _ _ _) | (refine zS ?_; intro _ _) | (apply Ws <;> intro hg))
      refine Ends.loop ⟨b + 1, v3, M3, [], n3⟩ (by simp only; omega) (by repeat' (first | exact .nil | refine .cons rfl ?_)) rfl ⟨by simp only; omega, by simp only; omega, ?_, hH9⟩
      simp only
      rw [take_snoc' (d := 0) (by omega)]
      simpa [ints] using hO3
    · have hbl : b = K.length := by omega
      subst hbl
      rw [List.take_of_length_le (by omega)] at hOr
      have hu1 := (hOr.sl M).one_
      have hwsl := hRr.1
      rw [List.length_take, hpl] at hwsl
      repeat' (first | refine zP ?_ | refine zA ?_ | (refine zM ?_; intro _ _) | refine zX ?_ | (refine zC ?_; intro _ _ _ _) | (refine zS ?_; intro _ _) | (apply Ws <;> intro hg))
      refine WR.append1F Mr Mo (Mi ++ M) rfl rfl rfl rfl hO hH5 (new := [vb]) (fill1 hu1) (by simp [hu1]) rfl (Nat.le_refl _) (by omega) (by simp; omega) fun v3 M3 n3 H6 hO3 hH6 hn3 => ?_
      repeat' (first | refine zP ?_ | refine zA ?_ | (refine zM ?_; intro _ _) | refine zX ?_ | (refine zC ?_; intro _ _ _ _) | (refine zS ?_; intro _ _) | (apply Ws <;> intro hg))
      refine Ends.loop ⟨a + 1, v3, ws ++ [vb], M3, Mr ++ Mi, n3⟩ (by simp only; omega) (by repeat' (first | exact .nil | refine .cons rfl ?_)) rfl ⟨by simp only; omega, by simp only; omega, hO3, ?_, hH6.perm (by classical exact List.perm_iff_count.2 (fun a => by simp only [defds, List.map_cons, List.map_nil, List.count_append, List.count_cons, List.count_nil, List.cons_append, List.nil_append, List.append_nil]; omega))⟩
      simp only
      rw [take_snoc' (d := []) (by omega), pickP_get ha']
      refine RowsP.snoc (hRr.mono fun q hq => by rw [List.append_assoc]; exact List.mem_append_right _ hq) ?_
      rw [List.append_assoc]
      exact hOr.sl (Mi ++ M)
  · have hal : a = K.length := by omega
    subst hal
    rw [List.take_of_length_le (by omega)] at hRr
    repeat' (first | refine zP ?_ | refine zA ?_ | (refine zM ?_; intro _ _) | refine zX ?_ | (refine zC ?_; intro _ _ _ _) | (refine zS ?_; intro _ _) | (apply Ws <;> intro hg))
    refine Ends.ret1 rfl ⟨n1, Mo ++ Mi, hn1, by simpa using hH1, ?_⟩
    rw [List.append_assoc]
    exact (hRr.mono fun q hq => List.mem_append_right _ hq).rows (hO.sl (Mi ++ M))
theorem isBefore_fs (hH : hasH M n0 H) {l m : List Nat} (hS : Sl M 1 v (nodes l)) (hU : Sl M 1 w (nodes m)) (hl : l.length ≤ 1000) (hm : m.length ≤ 1000) :
    FS C 40 [v, w] H (fun e H' => H' = H ∧ e = .bool (decide (ordN l m))) := by
  refine FS.intro (pf := pf40) rfl rfl rfl ?_
  repeat' (first | refine zP ?_ | refine zA ?_ | (refine zM ?_; intro _ _) | refine zX ?_ | (refine zC ?_; intro _ _ _ _) | (refine zS ?_; intro _ _) | (apply Ws <;> intro hg))
  refine WC.condP rfl (fun hne => ?_) (fun hne => ?_)
  · repeat' (first | refine zP ?_ | refine zA ?_ | (refine zM ?_; intro _ _) | refine zX ?_ | (refine zC ?_; intro _ _ _ _) | (refine zS ?_; intro _ _) | (apply Ws <;> intro hg))
    refine Ends.ret1 rfl ⟨rfl, ?_⟩
    congr 1
    refine decide_eq_decide.2 ⟨fun h => .inl (by omega), fun h => ?_⟩
    rcases h with h | ⟨h, _⟩ <;> omega
  · repeat' (first | refine zP ?_ | refine zA ?_ | (refine zM ?_; intro _ _) | refine zX ?_ | (refine zC ?_; intro _ _ _ _) | (refine zS ?_; intro _ _) | (apply Ws <;> intro hg))
    refine WR.call (by first | exact gN | exact gS rfl) rfl rfl (CompareN_fs hH hS hU hl hm) ?_
    rintro _ _ ⟨rfl, rfl⟩
    repeat' (first | refine zP ?_ | refine zA ?_ | (refine zM ?_; intro _ _) | refine zX ?_ | (refine zC ?_; intro _ _ _ _) | (refine zS ?_; intro _ _) | (apply Ws <;> intro hg))
    refine Ends.ret1 rfl ⟨rfl, ?_⟩
    congr 1
    rw [decide_eq_decide, lexN_C]
    exact ⟨fun h => .inr ⟨by omega, h⟩, fun h => by rcases h with h | ⟨_, h⟩; omega; exact h⟩
set_option maxHeartbeats 2000000 in
theorem wrong_fs (hH : hasH M n0 H) {P : List (List Int)} (hP : SqP P) (hR : RowsI M v P) :
    FS C 21 [v] H (fun e H' => ∃ n' M2 l, n0 ≤ n' ∧ hasH (M2 ++ M) n' H' ∧ BestW P l ∧ Sl (M2 ++ M) 1 e (nodes l)) := by
  have hRR := hR
  obtain ⟨cws, hcS, hcl, hcrow⟩ := hR
  have hlen6 := hP.len
  have h2n : 1 ≤ 2 ^ P.length ∧ 2 ^ P.length ≤ 64 := ⟨Nat.two_pow_pos _, Nat.le_trans (Nat.pow_le_pow_right (by omega) hlen6) (by decide)⟩
  refine FS.intro (pf := pf21) rfl rfl rfl ?_
  repeat' (first | refine zP ?_ | refine zA ?_ | (refine zM ?_; intro _ _) | refine zX ?_ | (refine zC ?_; intro _ _ _ _) | (refine zS ?_; intro _ _) | (apply Ws <;> intro hg))
  rw [hcl]
  refine WR.op (by first | exact gN | exact gS rfl) rfl (OpV.shl1 rfl rfl (by show P.length ≤ 64; omega) (by show 2 ^ P.length < 2 ^ 63; omega)) ?_
  repeat' (first | refine zP ?_ | refine zA ?_ | (refine zM ?_; intro _ _) | refine zX ?_ | (refine zC ?_; intro _ _ _ _) | (refine zS ?_; intro _ _) | (apply Ws <;> intro hg))
  rw [show ((2 ^ P.length : Nat) : Int) - 1 = ((2 ^ P.length - 1 : Nat) : Int) by omega]
  repeat' (first | refine zP ?_ | refine zA ?_ | (refine zM ?_; intro _ _) | refine zX ?_ | (refine zC ?_; intro _ _ _ _) | (refine zS ?_; intro _ _) | (apply Ws <;> intro hg))
  refine WR.call (by first | exact gN | exact gS rfl) rfl rfl (divide_fs hH hP hRR (s := 2 ^ P.length - 1) (by omega)) ?_
  rintro _ H1 ⟨n1, a, b, Ma, Mb, hn1, hH1, hOa, hOb, rfl⟩
  have ha1 := (hOa.sl []).one_
  have hb1 := (hOb.sl []).one_
  clear hH
  repeat' (first | refine zP ?_ | refine zA ?_ | (refine zM ?_; intro _ _) | refine zX ?_ | (refine zC ?_; intro _ _ _ _) | (refine zS ?_; intro _ _) | (apply Ws <;> intro hg))
  refine WC.loopX [(0, v), (19, _)] (fun s : WV => [(4, s.v), (20, .int .i64 (s.k : Int))]) [] (fun s H' => s.k ≤ 2 ^ P.length - 1 ∧ n0 ≤ s.n ∧ WInv P s.k s.l ∧ Sl s.Mx 1 s.v (nodes s.l) ∧ hasH (s.Mx ++ M) s.n H') (fun s => 2 ^ P.length - 1 - s.k) ⟨0, a, _, Ma, n1⟩ (by repeat' (first | exact .nil | refine .cons rfl ?_)) rfl
    ⟨Nat.zero_le _, hn1, .zero P, by have := hOa.sl []; rwa [List.append_nil] at this, hH1.sub ((List.Sublist.refl _).append (List.sublist_append_right _ _))⟩ ?_
  clear hH1 hOa hOb
  rintro ⟨k, va, l, Mx, n2⟩ H2 ⟨hk, hn2, hI, hSl, hH2⟩
  simp only at hk hn2 hI hSl hH2
  dsimp only [List.cons_append, List.nil_append]
  repeat' (first | refine zP ?_ | refine zA ?_ | (refine zM ?_; intro _ _) | refine zX ?_ | (refine zC ?_; intro _ _ _ _) | (refine zS ?_; intro _ _) | (apply Ws <;> intro hg))
  refine WC.condP rfl (fun hltk => ?_) (fun hltk => ?_)
  · have hk' : k < 2 ^ P.length - 1 := by omega
    repeat' (first | refine zP ?_ | refine zA ?_ | (refine zM ?_; intro _ _) | refine zX ?_ | (refine zC ?_; intro _ _ _ _) | (refine zS ?_; intro _ _) | (apply Ws <;> intro hg))
    refine WR.call (by first | exact gN | exact gS rfl) rfl rfl (divide_fs hH2 hP (hRR.mono fun q hq => List.mem_append_right _ hq) (s := k) (by omega)) ?_
    rintro _ H3 ⟨n3, a, b, Ma, Mb, hn3, hH3, hOa, hOb, rfl⟩
    have ha1 := (hOa.sl []).one_
    have hb1 := (hOb.sl []).one_
    have hSa := hOa.sl (Mb ++ (Mx ++ M))
    have hSb := (hOb.sl (Mx ++ M)).mono (M' := Ma ++ (Mb ++ (Mx ++ M))) fun q hq => List.mem_append_right _ hq
    have hSl2 := hSl.mono (M' := Ma ++ (Mb ++ (Mx ++ M))) fun q hq => List.mem_append_right _ (List.mem_append_right _ (List.mem_append_left _ hq))
    have hol := outK_len k P.length
    have hkl := keepK_len k P.length
    have hll := hI.is.len.1
    clear hH2
    repeat' (first | refine zP ?_ | refine zA ?_ | (refine zM ?_; intro _ _) | refine zX ?_ | (refine zC ?_; intro _ _ _ _) | (refine zS ?_; intro _ _) | (apply Ws <;> intro hg))
    refine WR.call (by first | exact gN | exact gS rfl) rfl rfl (isBefore_fs hH3 hSa hSl2 (by omega) (by omega)) ?_
    rintro _ H4 ⟨rfl, rfl⟩
    have hback : ∀ {n : Nat} {H : Heap}, hasH (Ma ++ (Mb ++ (Mx ++ M))) n H → hasH (Mx ++ M) n H := fun h => h.sub ((List.sublist_append_right _ _).trans (List.sublist_append_right _ _))
    by_cases ho : ordN (outK k P.length) l
    · rw [decide_eq_true ho]
      repeat' (first | refine zP ?_ | refine zA ?_ | (refine zM ?_; intro _ _) | refine zX ?_ | (refine zC ?_; intro _ _ _ _) | (refine zS ?_; intro _ _) | (apply Ws <;> intro hg))
      refine WR.call (by first | exact gN | exact gS rfl) rfl rfl (only_fs hH3 hP (hRR.mono fun q hq => List.mem_append_right _ (List.mem_append_right _ (List.mem_append_right _ hq))) hSb (by omega) keepK_lt) ?_
      rintro e5 H5 ⟨n5, M5, hn5, hH5, hR5⟩
      repeat' (first | refine zP ?_ | refine zA ?_ | (refine zM ?_; intro _ _) | refine zX ?_ | (refine zC ?_; intro _ _ _ _) | (refine zS ?_; intro _ _) | (apply Ws <;> intro hg))
      refine WR.call (by first | exact gN | exact gS rfl) rfl rfl (oneTaste_fs hH5 (hP.pick (K := keepK k P.length) (by omega)) hR5) ?_
      rintro _ H6 ⟨n6, hn6, hH6, rfl⟩
      have hH7 : hasH (Ma ++ (Mb ++ (Mx ++ M))) n6 H6 := hH6.sub (List.sublist_append_right _ _)
      rw [show tasteB (pickP P (keepK k P.length)) = okW P k from rfl]
      cases hok : okW P k with
      | true =>
        repeat' (first | refine zP ?_ | refine zA ?_ | (refine zM ?_; intro _ _) | refine zX ?_ | (refine zC ?_; intro _ _ _ _) | (refine zS ?_; intro _ _) | (apply Ws <;> intro hg))
        refine Ends.loop ⟨k + 1, a, outK k P.length, Ma, n6⟩ (by simp only; omega) (by repeat' (first | exact .nil | refine .cons rfl ?_)) rfl ⟨by simp only; omega, by simp only; omega, hI.take (by omega) hok ho, by have := hOa.sl []; rwa [List.append_nil] at this, ?_⟩
        exact hH7.sub ((List.Sublist.refl _).append ((List.sublist_append_right _ _).trans (List.sublist_append_right _ _)))
      | false =>
        repeat' (first | refine zP ?_ | refine zA ?_ | (refine zM ?_; intro _ _) | refine zX ?_ | (refine zC ?_; intro _ _ _ _) | (refine zS ?_; intro _ _) | (apply Ws <;> intro hg))
        exact Ends.loop ⟨k + 1, va, l, Mx, n6⟩ (by simp only; omega) (by repeat' (first | exact .nil | refine .cons rfl ?_)) rfl ⟨by simp only; omega, by simp only; omega, hI.skip (fun h => by rw [hok] at h; cases h.1), hSl, hback hH7⟩
    · rw [decide_eq_false ho]
      repeat' (first | refine zP ?_ | refine zA ?_ | (refine zM ?_; intro _ _) | refine zX ?_ | (refine zC ?_; intro _ _ _ _) | (refine zS ?_; intro _ _) | (apply Ws <;> intro hg))
      exact Ends.loop ⟨k + 1, va, l, Mx, n3⟩ (by simp only; omega) (by repeat' (first | exact .nil | refine .cons rfl ?_)) rfl ⟨by simp only; omega, by simp only; omega, hI.skip (fun h => ho h.2), hSl, hback hH3⟩
  · have hkl : k = 2 ^ P.length - 1 := by omega
    subst hkl
    repeat' (first | refine zP ?_ | refine zA ?_ | (refine zM ?_; intro _ _) | refine zX ?_ | (refine zC ?_; intro _ _ _ _) | (refine zS ?_; intro _ _) | (apply Ws <;> intro hg))
    exact Ends.ret1 rfl ⟨n2, Mx, l, hn2, hH2, hI.fin, hSl.mono fun q hq => List.mem_append_left _ hq⟩
def WrongOut (M : HL) (g : Int) (S : List Sal) (e : Value) : Prop := ∃ u, e = .tuple #[u, .int .i64 (errS g S)] ∧ one u = true ∧ ((errS g S = 0 ∧ ∃ l, BestW (matS S) l ∧ Sl M 1 u (nodes l)) ∨ (errS g S ≠ 0 ∧ u = .slice none 0 0))
theorem Wrong_fs (hH : hasH M n0 H) {S : List Sal} (hS : SalesI M v S) (hl : LenS S) (g : Int) :
    FS C 12 [.int .i64 g, v] H (fun e H' => ∃ n' M2, n0 ≤ n' ∧ hasH (M2 ++ M) n' H' ∧ WrongOut (M2 ++ M) g S e) := by
  have hv := hS.one_
  have hr := errS_range g S
  refine FS.intro (pf := pf12) rfl rfl rfl ?_
  repeat' (first | refine zP ?_ | refine zA ?_ | (refine zM ?_; intro _ _) | refine zX ?_ | (refine zC ?_; intro _ _ _ _) | (refine zS ?_; intro _ _) | (apply Ws <;> intro hg))
  refine WR.call (by first | exact gN | exact gS rfl) rfl rfl (reckon_fs hH hS hl g) ?_
  rintro _ H2 ⟨n2, M2, u, hn2, hH2, hu, rfl, ⟨he, rfl⟩ | ⟨h0, ⟨k, rfl, hk⟩, hP, hR⟩⟩
  · repeat' (first | refine zP ?_ | refine zA ?_ | (refine zM ?_; intro _ _) | refine zX ?_ | (refine zC ?_; intro _ _ _ _) | (refine zS ?_; intro _ _) | (apply Ws <;> intro hg))
    refine WC.condP rfl (fun he2 => ?_) (fun he2 => ?_)
    · repeat' (first | refine zP ?_ | refine zA ?_ | (refine zM ?_; intro _ _) | refine zX ?_ | (refine zC ?_; intro _ _ _ _) | (refine zS ?_; intro _ _) | (apply Ws <;> intro hg))
      exact Ends.ret2 rfl rfl ⟨n2, M2, hn2, hH2, _, rfl, rfl, .inr ⟨he, rfl⟩⟩
    · exact absurd he he2
  · rw [h0]
    repeat' (first | refine zP ?_ | refine zA ?_ | (refine zM ?_; intro _ _) | refine zX ?_ | (refine zC ?_; intro _ _ _ _) | (refine zS ?_; intro _ _) | refine zO ?_ | (apply Ws <;> intro hg))
    refine WR.call (by first | exact gN | exact gS rfl) rfl rfl (wrong_fs hH2 hP hR) ?_
    rintro e3 H3 ⟨n3, M3, l, hn3, hH3, hB, hSl⟩
    have he31 := hSl.one_
    repeat' (first | refine zP ?_ | refine zA ?_ | (refine zM ?_; intro _ _) | refine zX ?_ | (refine zC ?_; intro _ _ _ _) | (refine zS ?_; intro _ _) | (apply Ws <;> intro hg))
    exact Ends.ret2 rfl rfl ⟨n3, M3 ++ M2, by omega, by simpa using hH3, e3, by rw [h0], he31, .inl ⟨h0, l, hB, by simpa using hSl⟩⟩
theorem WrongOut.ok {M : HL} {g : Nat} {S : List Sal} {e : Value} (hok : OKS g S) (h : WrongOut M g S e) : ∃ u l, one u = true ∧ BestW (matS S) l ∧ Sl M 1 u (nodes l) ∧ e = .tuple #[u, .int .i64 0] := by
  obtain ⟨u, he, hu, ⟨_, l, k1, k2⟩ | ⟨k1, _⟩⟩ := h
  · rw [err0 hok] at he; exact ⟨u, l, hu, k1, k2, he⟩
  · exact absurd (err0 hok) k1
end
end Go.Proofs.Ytdlfikobjnjmaaa.Tt

/- TasteLeft. -/
namespace Go.Proofs.Ytdlfikobjnjmaaa.Tt
open Go Go.Abs Go.Mth
set_option linter.unusedVariables false
set_option linter.unusedSimpArgs false
def LInv (P : List (List Int)) (k : Nat) (f : Bool) (l : List Nat) : Prop := (f = false ∧ l = [] ∧ ∀ s, s < k → okW P s = false) ∨ (f = true ∧ WInv P k l)
theorem LInv.skip {P : List (List Int)} {k : Nat} {f : Bool} {l : List Nat} (h : LInv P k f l) (hok : okW P k = false) : LInv P (k + 1) f l := by
  rcases h with ⟨h1, h2, h3⟩ | ⟨h1, h2⟩
  · refine .inl ⟨h1, h2, fun s hs => ?_⟩
    by_cases e : s = k
    · rw [e]; exact hok
    · exact h3 s (by omega)
  · exact .inr ⟨h1, h2.skip fun q => by rw [hok] at q; cases q.1⟩
theorem LInv.first {P : List (List Int)} {k : Nat} {l : List Nat} (h : LInv P k false l) (hk : k < 2 ^ P.length) (hok : okW P k = true) : LInv P (k + 1) true (outK k P.length) := by
  rcases h with ⟨_, _, h3⟩ | ⟨h1, _⟩
  · refine .inr ⟨rfl, ⟨k, hk, hok, rfl⟩, fun s hs hsk => ?_⟩
    by_cases e : s = k
    · rw [e]; exact ordN_irr _
    · rw [h3 s (by omega)] at hsk; cases hsk
  · cases h1
theorem LInv.take {P : List (List Int)} {k : Nat} {l : List Nat} (h : LInv P k true l) (hk : k < 2 ^ P.length) (hok : okW P k = true) (ho : ordN (outK k P.length) l) : LInv P (k + 1) true (outK k P.length) := by
  rcases h with ⟨h1, _⟩ | ⟨_, h2⟩
  · cases h1
  · exact .inr ⟨rfl, h2.take hk hok ho⟩
theorem LInv.keep {P : List (List Int)} {k : Nat} {l : List Nat} (h : LInv P k true l) (ho : ¬ ordN (outK k P.length) l) : LInv P (k + 1) true l := by
  rcases h with ⟨h1, _⟩ | ⟨_, h2⟩
  · cases h1
  · exact .inr ⟨rfl, h2.skip fun q => ho q.2⟩
theorem LInv.fin {P : List (List Int)} {f : Bool} {l : List Nat} (h : LInv P (2 ^ P.length) f l) : BestW P l := by
  rcases h with ⟨_, _, h3⟩ | ⟨_, h2⟩
  · have := h3 (2 ^ P.length - 1) (Nat.sub_lt (Nat.two_pow_pos _) (by omega))
    rw [okW, keep_full] at this; cases this
  · exact h2.fin'
theorem LInv.len {P : List (List Int)} {k : Nat} {f : Bool} {l : List Nat} (h : LInv P k f l) : l.length ≤ P.length := by
  rcases h with ⟨_, rfl, _⟩ | ⟨_, h⟩
  · exact Nat.zero_le _
  · exact h.is.len.1
theorem BestW.unique {P : List (List Int)} {l m : List Nat} (h : BestW P l) (k : BestW P m) : l = m := LeastP.unique h k
end Go.Proofs.Ytdlfikobjnjmaaa.Tt

/- Sales that are others again: their taste, and how many of them are wrong. -/
namespace Go.Proofs.Ytdlfikobjnjmaaa.Tt
open Go Go.Abs Go.Mth
set_option linter.unusedVariables false
set_option linter.unusedSimpArgs false
theorem sub_len : ∀ {a b : List Nat}, a.Nodup → (∀ x ∈ a, x ∈ b) → a.length ≤ b.length
  | [], b, _, _ => Nat.zero_le _
  | x :: a, b, hn, hs => by
    have hx := hs x (.head _)
    have hn2 := List.nodup_cons.1 hn
    have ih := sub_len (b := b.erase x) hn2.2 fun y hy => (List.mem_erase_of_ne (show y ≠ x from fun e => hn2.1 (e ▸ hy))).2 (hs y (.tail _ hy))
    rw [List.length_erase_of_mem hx] at ih
    have := List.length_pos_of_mem hx
    rw [List.length_cons]; omega
theorem RT.hom {g g' : Nat → Nat → Bool} {n n' : Nat} {f : Nat → Nat} (hf : ∀ a, a < n' → f a < n) (hg : ∀ a b, a < n' → b < n' → g' a b = true → g (f a) (f b) = true) {a b : Nat} (h : RT g' n' a b) : RT g n (f a) (f b) := by
  induction h with
  | refl ha => exact .refl (hf _ ha)
  | step hr hgb hc ih => exact .step ih (hg _ _ hr.lt.2 hc hgb) (hf _ hc)
structure Hom (P P' : List (List Int)) (f : Nat → Nat) : Prop where
  lt : ∀ a, a < P'.length → f a < P.length
  ge : ∀ a b, a < P'.length → b < P'.length → 0 ≤ DP P' a b → 0 ≤ DP P (f a) (f b)
  gt : ∀ a b, a < P'.length → b < P'.length → 0 < DP P' a b → 0 < DP P (f a) (f b)
theorem Hom.taste {P P' : List (List Int)} {f : Nat → Nat} (h : Hom P P' f) (ht : tasteB P = true) : tasteB P' = true := by
  rw [tasteB_iff] at ht ⊢
  rintro ⟨a, b, ha, hb, hD, hr⟩
  exact ht ⟨f a, f b, h.lt a ha, h.lt b hb, h.gt a b ha hb hD, hr.hom h.lt fun p q hp hq hg => gD_iff.2 (h.ge p q hp hq (gD_iff.1 hg))⟩
theorem bits_of (p : Nat → Bool) : ∀ n, ∃ s, s < 2 ^ n ∧ ∀ a, a < n → s.testBit a = p a
  | 0 => ⟨0, by simp, fun a h => absurd h (Nat.not_lt_zero _)⟩
  | n + 1 => by
    obtain ⟨s, hs, hb⟩ := bits_of p n
    have hp : 2 ^ (n + 1) = 2 ^ n * 2 := Nat.pow_succ _ _
    cases hpn : p n with
    | false =>
      refine ⟨s, by omega, fun a ha => ?_⟩
      by_cases e : a = n
      · subst e; rw [hpn]; exact Nat.testBit_lt_two_pow hs
      · exact hb a (by omega)
    | true =>
      refine ⟨2 ^ n + s, by omega, fun a ha => ?_⟩
      by_cases e : a = n
      · subst e; rw [Nat.testBit_two_pow_add_eq, Nat.testBit_lt_two_pow hs, hpn]; rfl
      · rw [Nat.testBit_two_pow_add_gt (by omega)]; exact hb a (by omega)
theorem outK_nodup (s k : Nat) : (outK s k).Nodup := List.Pairwise.filter _ List.nodup_range
theorem Hom.wrong {P P' : List (List Int)} {f : Nat → Nat} (h : Hom P P' f) (hinj : ∀ a b, a < P'.length → b < P'.length → f a = f b → a = b) {l l' : List Nat} (hl : BestW P l) (hl' : BestW P' l') : l'.length ≤ l.length := by
  obtain ⟨s, hs, hok, rfl⟩ := hl.1
  obtain ⟨s', hs', hb⟩ := bits_of (fun a => s.testBit (f a)) P'.length
  have hkeep : ∀ i, ∃ k, i < (keepK s' P'.length).length → k < (keepK s P.length).length ∧ (keepK s P.length).getD k 0 = f ((keepK s' P'.length).getD i 0) := fun i => by
    by_cases hi : i < (keepK s' P'.length).length
    · have hm := mem_keepK.1 (getD_mem (a := 0) hi)
      have hm2 : f ((keepK s' P'.length).getD i 0) ∈ keepK s P.length := mem_keepK.2 ⟨h.lt _ hm.1, by rw [← hb _ hm.1]; exact hm.2⟩
      obtain ⟨k, hk, he⟩ := mem_at hm2
      exact ⟨k, fun _ => ⟨hk, he⟩⟩
    · exact ⟨0, fun k => absurd k hi⟩
  have hφ : ∀ i, i < (keepK s' P'.length).length → Classical.choose (hkeep i) < (keepK s P.length).length ∧ (keepK s P.length).getD (Classical.choose (hkeep i)) 0 = f ((keepK s' P'.length).getD i 0) := fun i => Classical.choose_spec (hkeep i)
  have hm : ∀ i, i < (keepK s' P'.length).length → (keepK s' P'.length).getD i 0 < P'.length := fun i hi => (mem_keepK.1 (getD_mem (a := 0) hi)).1
  have hom : Hom (pickP P (keepK s P.length)) (pickP P' (keepK s' P'.length)) (fun i => Classical.choose (hkeep i)) := by
    refine ⟨fun i hi => ?_, fun i j hi hj hD => ?_, fun i j hi hj hD => ?_⟩
    · rw [pickP_len] at hi ⊢; exact (hφ i hi).1
    · rw [pickP_len] at hi hj
      rw [pick_DP hi hj] at hD
      rw [pick_DP (hφ i hi).1 (hφ j hj).1, (hφ i hi).2, (hφ j hj).2]
      exact h.ge _ _ (hm i hi) (hm j hj) hD
    · rw [pickP_len] at hi hj
      rw [pick_DP hi hj] at hD
      rw [pick_DP (hφ i hi).1 (hφ j hj).1, (hφ i hi).2, (hφ j hj).2]
      exact h.gt _ _ (hm i hi) (hm j hj) hD
  have hok' : okW P' s' = true := hom.taste hok
  have hno := hl'.2 _ ⟨s', hs', hok', rfl⟩
  have h1 : l'.length ≤ (outK s' P'.length).length := by
    apply Nat.not_lt.1
    intro k
    exact hno (.inl k)
  have h2 : ((outK s' P'.length).map f).length ≤ (outK s P.length).length := sub_len (by
    refine List.pairwise_map.2 ?_
    refine (outK_nodup s' P'.length).imp_of_mem fun {a b} ha hb2 hne e => hne (hinj a b (mem_outK.1 ha).1 (mem_outK.1 hb2).1 e)) fun x hx => by
    obtain ⟨a, ha, rfl⟩ := List.mem_map.1 hx
    have := mem_outK.1 ha
    exact mem_outK.2 ⟨h.lt a this.1, by rw [← hb a this.1]; exact this.2⟩
  rw [List.length_map] at h2
  omega
theorem cs_eq {S S' : List Sal} {a b p q : Nat} (ha : S'.getD a noSal = S.getD p noSal) (hb : S'.getD b noSal = S.getD q noSal) : cs S' a b = cs S p q := by unfold cs; rw [ha, hb]
theorem Hom.of {S S' : List Sal} {f : Nat → Nat} (hf : ∀ a, a < S'.length → f a < S.length ∧ S'.getD a noSal = S.getD (f a) noSal) : Hom (matS S) (matS S') f := by
  have hD : ∀ a b, a < (matS S').length → b < (matS S').length → DP (matS S') a b = DP (matS S) (f a) (f b) := fun a b ha hb => by
    rw [matS_len] at ha hb
    have k1 := hf a ha
    have k2 := hf b hb
    unfold DP
    rw [matS_get ha, matS_get k1.1, rowS_get ha, rowS_get hb, rowS_get k1.1, rowS_get k2.1, cs_eq k1.2 k1.2, cs_eq k1.2 k2.2]
  exact ⟨fun a ha => by rw [matS_len] at ha ⊢; exact (hf a ha).1, fun a b ha hb h => by rwa [hD a b ha hb] at h, fun a b ha hb h => by rwa [hD a b ha hb] at h⟩
end Go.Proofs.Ytdlfikobjnjmaaa.Tt

/- Sales with other numbers of the goods, in another order, or with a price twice as high. -/
namespace Go.Proofs.Ytdlfikobjnjmaaa.Tt
open Go Go.Abs Go.Mth
set_option linter.unusedVariables false
set_option linter.unusedSimpArgs false
theorem mod_two {y L : Nat} (h : y < 2 * L) : y % L = if y < L then y else y - L := by
  split
  · rename_i h1; exact Nat.mod_eq_of_lt h1
  · rename_i h1; rw [Nat.mod_eq_sub_mod (by omega)]; exact Nat.mod_eq_of_lt (by omega)
def othF (L t i : Nat) : Nat := ((L - 1 - i) + t) % L
def othB (L t j : Nat) : Nat := L - 1 - (j + (L - t % L)) % L
theorem oth_fb {L t x : Nat} (hx : x < L) : othF L t (othB L t x) = x := by
  unfold othF othB
  have ht := Nat.mod_lt t (show 0 < L by omega)
  rw [← Nat.add_mod_mod _ t L, mod_two (y := x + (L - t % L)) (by omega)]
  split
  · rw [mod_two (by omega)]; split <;> omega
  · rw [mod_two (by omega)]; split <;> omega
theorem oth_bf {L t x : Nat} (hx : x < L) : othB L t (othF L t x) = x := by
  unfold othF othB
  have ht := Nat.mod_lt t (show 0 < L by omega)
  rw [← Nat.add_mod_mod (L - 1 - x) t L, mod_two (y := L - 1 - x + t % L) (by omega)]
  split
  · rw [mod_two (by omega)]; split <;> omega
  · rw [mod_two (by omega)]; split <;> omega
theorem othF_lt {L t x : Nat} (hx : x < L) : othF L t x < L := Nat.mod_lt _ (by omega)
theorem othB_lt {L t x : Nat} (hx : x < L) : othB L t x < L := by unfold othB; omega
theorem taste_oth {S S' : List Sal} {t : Nat} (hl : S'.length = S.length) (h : ∀ i, i < S.length → S'.getD i noSal = S.getD (othF S.length t i) noSal) :
    tasteB (matS S') = tasteB (matS S) ∧ ∀ l l', BestW (matS S) l → BestW (matS S') l' → l.length = l'.length := by
  have h1 : Hom (matS S) (matS S') (othF S.length t) := .of fun a ha => by rw [hl] at ha; exact ⟨othF_lt ha, h a ha⟩
  have h2 : Hom (matS S') (matS S) (othB S.length t) := .of fun a ha => ⟨by rw [hl]; exact othB_lt ha, by rw [h _ (othB_lt ha), oth_fb ha]⟩
  refine ⟨by rw [Bool.eq_iff_iff]; exact ⟨h2.taste, h1.taste⟩, fun l l' q1 q2 => Nat.le_antisymm ?_ ?_⟩
  · exact h2.wrong (fun a b ha hb e => by
      rw [matS_len] at ha hb
      rw [← oth_fb (t := t) ha, ← oth_fb (t := t) hb, e]) q2 q1
  · exact h1.wrong (fun a b ha hb e => by
      rw [matS_len, hl] at ha hb
      rw [← oth_bf (t := t) ha, ← oth_bf (t := t) hb, e]) q1 q2
def revS (S : List Sal) : List Sal := S.map fun s => (s.1.reverse, s.2.reverse)
theorem dot_rev {p t : List Int} {g : Nat} (hg : g ≤ 3) (hp : p.length = g) (ht : t.length = g) : dotI p.reverse t.reverse g = dotI p t g := by
  subst hp
  match p, t, ht, hg with
  | [], [], _, _ => rfl
  | [a], [x], _, _ => rfl
  | [a, b], [x, y], _, _ => simp [dotI]; omega
  | [a, b, c], [x, y, z], _, _ => simp [dotI]; omega
  | _ :: _ :: _ :: _ :: _, _, _, h => simp only [List.length_cons] at h; omega
theorem rev_len (S : List Sal) : (revS S).length = S.length := by simp [revS]
theorem rev_get {S : List Sal} {i : Nat} (h : i < S.length) : (revS S).getD i noSal = ((S.getD i noSal).1.reverse, (S.getD i noSal).2.reverse) := by
  rw [getD_eq (by rw [rev_len]; exact h), getD_eq h]; simp [revS]
theorem rev_mat {g : Nat} {S : List Sal} (h : OKS g S) : matS (revS S) = matS S := by
  unfold matS
  rw [rev_len]
  refine List.map_congr_left fun a ha => ?_
  have ha := List.mem_range.1 ha
  unfold rowS
  rw [rev_len]
  refine List.map_congr_left fun b hb => ?_
  have hb := List.mem_range.1 hb
  unfold cs
  rw [rev_get ha, rev_get hb]
  simp only [List.length_reverse]
  rw [h.lp a ha]
  exact dot_rev h.g3 (h.lp a ha) (h.lt b hb)
def dblS (w : Nat) (s : Sal) : Sal := (s.1.map (· * 2), s.2)
def dearS (S : List Sal) (w : Nat) : List Sal := (List.range S.length).map fun i => if i = w then dblS w (S.getD i noSal) else S.getD i noSal
theorem dear_len (S : List Sal) (w : Nat) : (dearS S w).length = S.length := by simp [dearS]
theorem dear_get {S : List Sal} {w i : Nat} (h : i < S.length) : (dearS S w).getD i noSal = if i = w then dblS w (S.getD i noSal) else S.getD i noSal := by
  rw [getD_eq (by rw [dear_len]; exact h)]; simp [dearS]
theorem dot_dbl (p t : List Int) : ∀ k, k ≤ p.length → dotI (p.map (· * 2)) t k = 2 * dotI p t k
  | 0, _ => rfl
  | k + 1, h => by
    have e : (p.map (· * 2)).getD k 0 = p.getD k 0 * 2 := by rw [getD_eq (by simp; omega), getD_eq (by omega), List.getElem_map]
    rw [dotI, dotI, dot_dbl p t k (by omega), e, Int.mul_add, Int.mul_comm (p.getD k 0) 2, Int.mul_assoc]
theorem dear_cs {S : List Sal} {w a b : Nat} (ha : a < S.length) (hb : b < S.length) : cs (dearS S w) a b = if a = w then 2 * cs S a b else cs S a b := by
  have e2 : ((dearS S w).getD b noSal).2 = (S.getD b noSal).2 := by rw [dear_get hb]; split <;> rfl
  unfold cs
  rw [e2, dear_get ha]
  by_cases h : a = w
  · rw [if_pos h, if_pos h]
    show dotI ((S.getD a noSal).1.map (· * 2)) _ ((S.getD a noSal).1.map (· * 2)).length = _
    rw [List.length_map]
    exact dot_dbl _ _ _ (Nat.le_refl _)
  · rw [if_neg h, if_neg h]
theorem dear_DP {S : List Sal} {w a b : Nat} (ha : a < S.length) (hb : b < S.length) : DP (matS (dearS S w)) a b = if a = w then 2 * DP (matS S) a b else DP (matS S) a b := by
  unfold DP
  rw [matS_get (by rw [dear_len]; exact ha), matS_get ha, rowS_get (by rw [dear_len]; exact ha), rowS_get (by rw [dear_len]; exact hb), rowS_get ha, rowS_get hb, dear_cs ha ha, dear_cs ha hb]
  split <;> omega
theorem dear_ge {S : List Sal} {w a b : Nat} (ha : a < S.length) (hb : b < S.length) : gD (DP (matS (dearS S w))) a b = gD (DP (matS S)) a b := by
  rw [Bool.eq_iff_iff, gD_iff, gD_iff, dear_DP ha hb]
  split <;> omega
theorem dear_gt {S : List Sal} {w a b : Nat} (ha : a < S.length) (hb : b < S.length) : decide (0 < DP (matS (dearS S w)) a b) = decide (0 < DP (matS S) a b) := by
  rw [decide_eq_decide, dear_DP ha hb]
  split <;> omega
theorem dear_ok {g : Nat} {S : List Sal} (h : OKS g S) (h4 : ∀ i, i < S.length → ∀ x ∈ (S.getD i noSal).1, x ≤ 4) (w : Nat) : OKS g (dearS S w) where
  g1 := h.g1
  g3 := h.g3
  len := by rw [dear_len]; exact h.len
  lp i hi := by
    rw [dear_len] at hi
    rw [dear_get hi]
    split
    · exact (List.length_map _).trans (h.lp i hi)
    · exact h.lp i hi
  lt i hi := by
    rw [dear_len] at hi
    rw [dear_get hi]
    split <;> exact h.lt i hi
  bp i hi x hx := by
    rw [dear_len] at hi
    rw [dear_get hi] at hx
    split at hx
    · obtain ⟨y, hy, rfl⟩ := List.mem_map.1 hx
      have := h.bp i hi y hy
      have := h4 i hi y hy
      omega
    · exact h.bp i hi x hx
  bt i hi x hx := by
    rw [dear_len] at hi
    rw [dear_get hi] at hx
    split at hx <;> exact h.bt i hi x hx
theorem rev_ok {g : Nat} {S : List Sal} (h : OKS g S) : OKS g (revS S) where
  g1 := h.g1
  g3 := h.g3
  len := by rw [rev_len]; exact h.len
  lp i hi := by rw [rev_len] at hi; rw [rev_get hi]; simp only [List.length_reverse]; exact h.lp i hi
  lt i hi := by rw [rev_len] at hi; rw [rev_get hi]; simp only [List.length_reverse]; exact h.lt i hi
  bp i hi x hx := by rw [rev_len] at hi; rw [rev_get hi] at hx; exact h.bp i hi x (List.mem_reverse.1 hx)
  bt i hi x hx := by rw [rev_len] at hi; rw [rev_get hi] at hx; exact h.bt i hi x (List.mem_reverse.1 hx)
end Go.Proofs.Ytdlfikobjnjmaaa.Tt

/- All lists of different numbers, one after the other. -/
namespace Go.Abs
set_option linter.unusedSectionVars false
set_option linter.unusedSimpArgs false
variable [Globs]
open Go
section
variable {C : CW} {nt : Nat} {L : Env} {D : List Nat} {H : Heap} {K : St → Prop} {M M' : HL} {n i d : Nat} {gd : Option (Tmp × Bool)} {lo : List Nat} {l : List POp} {rs : List Rd}
def LstV (M : HL) (v : Value) (cs : List Value) : Prop := (cs = [] ∧ v = .slice none 0 0) ∨ (cs ≠ [] ∧ ∃ b o u cap, v = .slice (some ⟨b, o, some u⟩) cs.length cap ∧ KCell M b o u cs ∧ (cap = 2 * 1 ∨ cap = 2 * cs.length + 1))
def ClipV (M : HL) (v : Value) (cs : List Value) : Prop := (cs = [] ∧ v = .slice none 0 0) ∨ (cs ≠ [] ∧ ∃ b o u, v = .slice (some ⟨b, o, some u⟩) cs.length (2 * cs.length + 1) ∧ KCell M b o u cs)
theorem LstV.mono {v : Value} {cs : List Value} (h : LstV M v cs) (k : ∀ q ∈ M, q ∈ M') : LstV M' v cs := by
  rcases h with h | ⟨h0, b, o, u, cap, h1, h2, h3⟩
  · exact .inl h
  · exact .inr ⟨h0, b, o, u, cap, h1, h2.mono k, h3⟩
theorem LstV.sl {v : Value} {cs : List Value} (h : LstV M v cs) : Sl M 1 v cs := by
  rcases h with ⟨rfl, rfl⟩ | ⟨h0, b, o, u, cap, rfl, ⟨ch, lo, cells, h1, h2, h3, h4, h5⟩, h6⟩
  · exact .nil 0
  · refine .row h1 h2 h3 (by simp) h5 h4 ?_
    rcases h6 with rfl | rfl
    · exact .inl (.inl rfl)
    · exact .inr ⟨_, rfl, Nat.le_refl _⟩
theorem LstV.one_ {v : Value} {cs : List Value} (h : LstV M v cs) : one v = true := h.sl.one_
theorem ClipV.mono {v : Value} {cs : List Value} (h : ClipV M v cs) (k : ∀ q ∈ M, q ∈ M') : ClipV M' v cs := by
  rcases h with h | ⟨h0, b, o, u, h1, h2⟩
  · exact .inl h
  · exact .inr ⟨h0, b, o, u, h1, h2.mono k⟩
end
end Go.Abs
namespace Go.Proofs.Ytdlfikobjnjmaaa.Tt
open Go Go.Abs Go.Mth
set_option linter.unusedVariables false
set_option linter.unusedSimpArgs false
def preL (n : Nat) : Nat → List Nat → List (List Nat)
  | 0, l => if l = [] then [] else [l]
  | r + 1, l => (if l = [] then [] else [l]) ++ ((List.range n).filter fun x => !decide (x ∈ l)).flatMap fun x => preL n r (l ++ [x])
def Dis (n : Nat) (l : List Nat) : Prop := l.Nodup ∧ ∀ x ∈ l, x < n
theorem Dis.len {n : Nat} {l : List Nat} (h : Dis n l) : l.length ≤ n := nodup_le n l h.1 h.2
theorem Dis.snoc {n x : Nat} {l : List Nat} (h : Dis n l) (hx : x < n) (hm : x ∉ l) : Dis n (l ++ [x]) :=
  ⟨List.nodup_append.2 ⟨h.1, by simp, fun a ha b hb => by rw [List.mem_singleton.1 hb]; exact fun e => hm (e ▸ ha)⟩, fun y hy => by
    rcases List.mem_append.1 hy with hy | hy
    · exact h.2 y hy
    · rw [List.mem_singleton.1 hy]; exact hx⟩
theorem mem_preL {n : Nat} : ∀ {r : Nat} {l m : List Nat}, l.length + r = n → Dis n l → (m ∈ preL n r l ↔ m ≠ [] ∧ Dis n m ∧ m.take l.length = l)
  | 0, l, m, hl, hd => by
    have hfull : Dis n m → m.take l.length = l → m = l := fun h1 h2 => by
      have := h1.len
      rwa [List.take_of_length_le (by omega)] at h2
    unfold preL
    by_cases e : l = []
    · rw [if_pos e]
      constructor
      · intro h; cases h
      · rintro ⟨h1, h2, h3⟩; exact absurd ((hfull h2 h3).trans e) h1
    · rw [if_neg e, List.mem_singleton]
      constructor
      · rintro rfl; exact ⟨e, hd, List.take_length⟩
      · rintro ⟨h1, h2, h3⟩; exact hfull h2 h3
  | r + 1, l, m, hl, hd => by
    unfold preL
    rw [List.mem_append, List.mem_flatMap]
    constructor
    · rintro (h | ⟨x, hx, h⟩)
      · by_cases e : l = []
        · rw [if_pos e] at h; cases h
        · rw [if_neg e, List.mem_singleton] at h
          subst h; exact ⟨e, hd, List.take_length⟩
      · obtain ⟨h1, h2⟩ := List.mem_filter.1 hx
        have hm : x ∉ l := by simpa using h2
        obtain ⟨k1, k2, k3⟩ := (mem_preL (by simp; omega) (hd.snoc (List.mem_range.1 h1) hm)).1 h
        refine ⟨k1, k2, ?_⟩
        rw [List.length_append, List.length_singleton] at k3
        have := congrArg (List.take l.length) k3
        rwa [List.take_take, Nat.min_eq_left (by omega), List.take_left] at this
    · rintro ⟨h1, h2, h3⟩
      by_cases e : m.length = l.length
      · have hml : m = l := by rwa [← e, List.take_length] at h3
        left
        rw [if_neg (by rw [← hml]; exact h1), List.mem_singleton]; exact hml
      · right
        have hlt : l.length < m.length := by
          have := congrArg List.length h3
          rw [List.length_take] at this; omega
        have hx := h2.2 _ (getD_mem (a := 0) hlt)
        have e1 : m.take (l.length + 1) = l ++ [m.getD l.length 0] := by rw [take_snoc' (d := 0) hlt, h3]
        have hm : m.getD l.length 0 ∉ l := by
          have := nodup_at.1 h2.1 l.length hlt
          rwa [h3] at this
        refine ⟨m.getD l.length 0, List.mem_filter.2 ⟨List.mem_range.2 hx, by simpa using hm⟩, (mem_preL (by simp; omega) (hd.snoc hx hm)).2 ⟨h1, h2, ?_⟩⟩
        rw [List.length_append, List.length_singleton]; exact e1
theorem mem_pre {n : Nat} {m : List Nat} : m ∈ preL n n [] ↔ m ≠ [] ∧ Dis n m := by
  rw [mem_preL (by simp) ⟨List.nodup_nil, fun x hx => by cases hx⟩]
  exact ⟨fun h => ⟨h.1, h.2.1⟩, fun h => ⟨h.1, h.2, rfl⟩⟩
attribute [local irreducible] gOK WS WC WR WD Ends FS YS OpV seqK blockK loopK midK retK rdK asgK rangeEnd sat Cell
section
variable {M : HL} {n0 : Nat} {H : Heap} {v w : Value}
end
end Go.Proofs.Ytdlfikobjnjmaaa.Tt

/- all; TasteRanked. -/
namespace Go.Proofs.Ytdlfikobjnjmaaa.Tt
open Go Go.Abs Go.Mth
set_option linter.unusedVariables false
set_option linter.unusedSimpArgs false
def chB (D : Nat → Nat → Int) (l : List Nat) : Bool := (List.range (l.length - 1)).all fun j => decide (0 ≤ D (l.getD j 0) (l.getD (j + 1) 0))
theorem chB_iff {D : Nat → Nat → Int} {l : List Nat} : chB D l = true ↔ ∀ j, j + 1 < l.length → 0 ≤ D (l.getD j 0) (l.getD (j + 1) 0) := by
  simp only [chB, List.all_eq_true, List.mem_range, decide_eq_true_eq]
  exact ⟨fun h j hj => h j (by omega), fun h j hj => h j (by omega)⟩
theorem chain_iff {D : Nat → Nat → Int} {n : Nat} {l : List Nat} : Chain (gD D) n l ↔ l ≠ [] ∧ Dis n l ∧ chB D l = true := by
  rw [chB_iff]
  constructor
  · rintro ⟨h1, h2, h3, h4⟩; exact ⟨h1, ⟨h3, h2⟩, fun j hj => gD_iff.1 (h4 j hj)⟩
  · rintro ⟨h1, ⟨h3, h2⟩, h4⟩; exact ⟨h1, h2, h3, fun j hj => gD_iff.2 (h4 j hj)⟩
attribute [local irreducible] gOK WS WC WR WD Ends FS YS OpV seqK blockK loopK midK retK rdK asgK rangeEnd sat Cell
section
variable {M : HL} {n0 : Nat} {H : Heap} {v w : Value}
end
end Go.Proofs.Ytdlfikobjnjmaaa.Tt

/- Proves; TasteRinged's closure. -/
namespace Go.Proofs.Ytdlfikobjnjmaaa.Tt
open Go Go.Abs Go.Mth
set_option linter.unusedVariables false
set_option linter.unusedSimpArgs false
theorem flatB_len {α β : Type} {f : α → List β} {B : Nat} : ∀ {xs : List α}, (∀ x ∈ xs, (f x).length ≤ B) → (xs.flatMap f).length ≤ xs.length * B
  | [], _ => by simp
  | x :: xs, h => by
    have h1 := h x (.head _)
    have h2 := flatB_len (f := f) (B := B) (xs := xs) fun y hy => h y (.tail _ hy)
    rw [List.flatMap_cons, List.length_append, List.length_cons, Nat.succ_mul]; omega
theorem clos_chain {D : Nat → Nat → Int} {n : Nat} {l : List Nat} (h0 : l ≠ []) (hd : Dis n l) (h : closB D l = true) : Chain (gD D) n l := by
  refine chain_iff.2 ⟨h0, hd, chB_iff.2 fun j hj => ?_⟩
  have h1 : cycB D l = true := by unfold closB at h; exact (Bool.and_eq_true _ _ ▸ h).1
  have h2 := List.all_eq_true.1 h1 j (List.mem_range.2 (by omega))
  rw [Bool.and_eq_true, decide_eq_true_eq, decide_eq_true_eq] at h2
  have h3 : nxtE l j = l.getD (j + 1) 0 := by unfold nxtE; rw [Nat.mod_eq_of_lt hj]
  rw [h3] at h2; exact h2.2
def BestK (D : Nat → Nat → Int) (ds : List (List Nat)) : Option (List Nat) → Prop
  | none => ∀ d ∈ ds, ¬ closL D d
  | some m => m ∈ ds ∧ closL D m ∧ ∀ d ∈ ds, closL D d → ¬ ordN d m
theorem BestK.skip {D : Nat → Nat → Int} {ds : List (List Nat)} {z : List Nat} {bo : Option (List Nat)} (h : BestK D ds bo) (hz : ¬ closL D z) : BestK D (ds ++ [z]) bo := by
  cases bo with
  | none =>
    intro d hd
    rcases List.mem_append.1 hd with hd | hd
    · exact h d hd
    · rw [List.mem_singleton.1 hd]; exact hz
  | some m =>
    refine ⟨List.mem_append_left _ h.1, h.2.1, fun d hd hc => ?_⟩
    rcases List.mem_append.1 hd with hd | hd
    · exact h.2.2 d hd hc
    · rw [List.mem_singleton.1 hd] at hc; exact absurd hc hz
theorem BestK.first {D : Nat → Nat → Int} {ds : List (List Nat)} {z : List Nat} (h : BestK D ds none) (hz : closL D z) : BestK D (ds ++ [z]) (some z) := by
  refine ⟨by simp, hz, fun d hd hc => ?_⟩
  rcases List.mem_append.1 hd with hd | hd
  · exact absurd hc (h d hd)
  · rw [List.mem_singleton.1 hd]; exact ordN_irr _
theorem BestK.up {D : Nat → Nat → Int} {ds : List (List Nat)} {z m : List Nat} (h : BestK D ds (some m)) (hz : closL D z) (ho : ordN z m) : BestK D (ds ++ [z]) (some z) := by
  refine ⟨by simp, hz, fun d hd hc => ?_⟩
  rcases List.mem_append.1 hd with hd | hd
  · exact ordN_trans_not ho (h.2.2 d hd hc)
  · rw [List.mem_singleton.1 hd]; exact ordN_irr _
theorem BestK.stay {D : Nat → Nat → Int} {ds : List (List Nat)} {z m : List Nat} (h : BestK D ds (some m)) (ho : ¬ ordN z m) : BestK D (ds ++ [z]) (some m) := by
  refine ⟨List.mem_append_left _ h.1, h.2.1, fun d hd hc => ?_⟩
  rcases List.mem_append.1 hd with hd | hd
  · exact h.2.2 d hd hc
  · rw [List.mem_singleton.1 hd]; exact ho
theorem BestK.all {P : List (List Int)} {n : Nat} (hn : P.length = n) {bo : Option (List Nat)} (h : BestK (DP P) (preL n n []) bo) : firstRing P = bo := by
  subst hn
  have hk : ∀ m, (Chain (gD (DP P)) P.length m ∧ closB (DP P) m = true) ↔ (m ∈ preL P.length P.length [] ∧ closL (DP P) m) := fun m => by
    rw [mem_pre]
    exact ⟨fun ⟨k1, k2⟩ => ⟨⟨(chain_iff.1 k1).1, (chain_iff.1 k1).2.1⟩, (chain_iff.1 k1).2.1.1, k2⟩, fun ⟨⟨k1, k2⟩, k3⟩ => ⟨clos_chain k1 k2 k3.2, k3.2⟩⟩
  cases hf : firstRing P with
  | none =>
    cases bo with
    | none => rfl
    | some m =>
      have := List.find?_eq_none.1 hf m (mem_allC.2 ((hk m).2 ⟨h.1, h.2.1⟩).1)
      exact absurd ((hk m).2 ⟨h.1, h.2.1⟩).2 this
  | some z =>
    have hz := firstRing_least hf
    cases bo with
    | none => exact absurd ((hk z).1 hz.1).2 (h z ((hk z).1 hz.1).1)
    | some m =>
      have hm : LeastP (fun m => Chain (gD (DP P)) P.length m ∧ closB (DP P) m = true) m := ⟨(hk m).2 ⟨h.1, h.2.1⟩, fun d hd => h.2.2 d ((hk d).1 hd).1 ((hk d).1 hd).2⟩
      rw [LeastP.unique hz hm]
attribute [local irreducible] gOK WS WC WR WD Ends FS YS OpV seqK blockK loopK midK retK rdK asgK rangeEnd sat Cell
section
variable {M : HL} {n0 : Nat} {H : Heap} {v w u : Value}
end
end Go.Proofs.Ytdlfikobjnjmaaa.Tt

/- TasteRinged's closure. -/
namespace Go.Proofs.Ytdlfikobjnjmaaa.Tt
open Go Go.Abs Go.Mth
set_option linter.unusedVariables false
set_option linter.unusedSimpArgs false
def OptV (M : HL) (v : Value) : Option (List Nat) → Prop
  | none => v = .slice none 0 0
  | some m => m ≠ [] ∧ LstV M v (nodes m)
theorem OptV.mono {M M' : HL} {v : Value} {bo : Option (List Nat)} (h : OptV M v bo) (k : ∀ q ∈ M, q ∈ M') : OptV M' v bo := by
  cases bo with
  | none => exact h
  | some m => exact ⟨h.1, h.2.mono k⟩
theorem OptV.one_ {M : HL} {v : Value} {bo : Option (List Nat)} (h : OptV M v bo) : one v = true := by
  cases bo with
  | none => rw [show v = .slice none 0 0 from h]; rfl
  | some m => exact h.2.one_
theorem OptV.shape {M : HL} {v : Value} {m : List Nat} (h : OptV M v (some m)) : ∃ b o u c, v = .slice (some ⟨b, o, some u⟩) m.length c ∧ Sl M 1 v (nodes m) := by
  have hs := h.2.sl
  rcases h.2 with ⟨h0, _⟩ | ⟨_, b, o, u, cap, rfl, _⟩
  · exact absurd (by simpa [nodes] using h0) h.1
  · exact ⟨b, o, u, cap, by simp [nodes], hs⟩
attribute [local irreducible] gOK WS WC WR WD Ends FS YS OpV seqK blockK loopK midK retK rdK asgK rangeEnd sat Cell
section
variable {M : HL} {n0 : Nat} {H : Heap} {v w u : Value}
end
end Go.Proofs.Ytdlfikobjnjmaaa.Tt

/- Pairs of sales; Cost, Shows, Better. -/
namespace Go.Proofs.Ytdlfikobjnjmaaa.Tt
open Go Go.Abs Go.Mth
set_option linter.unusedVariables false
set_option linter.unusedSimpArgs false
theorem equal_k {P : Program} {e : TypeId} {k : IntKind} (h : P.underlying e = some (.int k)) (a b : Int) (d : Nat) : pureRun P (Op.equalIn (d + 1) e (.int k a) (.int k b)) = some (a == b) := by
  unfold Op.equalIn
  simp only [pureRun_bind, pureRun_underlying P h, Option.bind_some]
  cases k <;> rfl
theorem eqArr (a b c d : Int) (k : Nat) : pureRun C.c.P (Op.equalIn (k + 1 + 1) 54 (.agg #[.int .i64 a, .int .i64 b]) (.agg #[.int .i64 c, .int .i64 d])) = some (a == c && b == d) := by
  have hu : C.c.P.underlying 54 = some (.array 2 3) := by kernel_rfl
  have hz : pureRun C.c.P (sizeOf 3) = some 1 := by kernel_rfl
  have hp0 : ∀ x y : Int, pureRun C.c.P (part 3 #[.int .i64 x, .int .i64 y] 0) = some (.int .i64 x) := fun x y => by kernel_rfl
  have hp1 : ∀ x y : Int, pureRun C.c.P (part 3 #[.int .i64 x, .int .i64 y] 1) = some (.int .i64 y) := fun x y => by kernel_rfl
  have hk := equal_k (P := C.c.P) (e := 3) (k := .i64) (by kernel_rfl)
  unfold Op.equalIn
  simp only [pureRun_bind, pureRun_underlying C.c.P hu, Option.bind_some, hz, Std.Legacy.Range.forIn_eq_forIn_range', Std.Legacy.Range.size]
  simp only [show (2 - 0 + 1 - 1) / 1 = 2 from rfl, List.range', List.forIn_cons, List.forIn_nil, pureRun_bind, Nat.zero_mul, Nat.one_mul, Nat.zero_add, hp0, hp1, hk, Option.bind_some]
  cases h1 : (a == c) <;> cases h2 : (b == d) <;> simp [pureRun_bind, pureRun_pure, h1, h2, hp0, hp1, hk]
theorem neArrOp (a b c d : Int) : pureRun C.c.P (binOp .neq 54 (.agg #[.int .i64 a, .int .i64 b]) (.agg #[.int .i64 c, .int .i64 d])) = some (.bool (!(a == c && b == d))) := by
  have := eqArr a b c d 9998
  show pureRun C.c.P (Op.equal 54 _ _ >>= fun q => (pure (Value.bool (!q)) : Sem Value)) = _
  rw [pureRun_bind]
  show Option.bind (pureRun C.c.P (Op.equalIn (9998 + 1 + 1) 54 _ _)) _ = _
  rw [this]
  simp [pureRun_pure]
theorem neArrG (x y : Operand) (a b c d : Int) : pureRun C.c.P (eqGuard .neq 54 x y (.agg #[.int .i64 a, .int .i64 b]) (.agg #[.int .i64 c, .int .i64 d])) = some () := by kernel_rfl
theorem OpV.opAgg {op : BinOp} {L : Env} {H : Heap} {dst : Option Tmp} {x y : Operand} {ty ty2 ty3 : TypeId} {pos : String} {af : Array Edge} {g : Option (Nat × Bool)} {A B : Array Value} {r : Bool} (e1 : pureRun C.c.P (eqGuard op ty x y (.agg A) (.agg B)) = some ()) (e2 : pureRun C.c.P (binOp op ty (.agg A) (.agg B)) = some (.bool r))
    (hx : ev L x = some (.agg A)) (hy : ev L y = some (.agg B)) (hA : plainV (.agg A) = true) (hB : plainV (.agg B) = true) :
    OpV C (.plain ⟨dst, .binOp op ty x y ty2, ty3, pos, af, g⟩) L H (.bool r) H := by
  refine OpV.plain (fun t ht => ?_) (fun t ht => by simp [Op.operands, ev_ok ht hx, ev_ok ht hy, hA, hB]) rfl
  simp only [pureNext, execOp, ev_ok ht hx, ev_ok ht hy, pureRun_bind, e1, e2, Option.bind_some]
  rfl
abbrev prV (q : Nat × Nat) : List Value := [.int .i64 (q.1 : Nat), .int .i64 (q.2 : Nat)]
theorem prV_len (q : Nat × Nat) : (prV q).length = 2 := rfl
theorem pr_snoc (qs : List (Nat × Nat)) (a b : Nat) : cellsF prV qs ++ [.int .i64 (a : Nat), .int .i64 (b : Nat)] = cellsF prV (qs ++ [(a, b)]) := by simp [cellsF]
def rowK (h : Nat → Nat → Bool) (a b : Nat) : List (Nat × Nat) := ((List.range b).filter fun j => decide (a ≠ j) && h a j).map fun j => (a, j)
def prs (h : Nat → Nat → Bool) (n a b : Nat) : List (Nat × Nat) := ((List.range a).flatMap fun i => rowK h i n) ++ rowK h a b
theorem rowK_succ (h : Nat → Nat → Bool) (a b : Nat) : rowK h a (b + 1) = rowK h a b ++ if a ≠ b ∧ h a b = true then [(a, b)] else [] := by
  unfold rowK
  rw [List.range_succ, List.filter_append, List.map_append]
  congr 1
  by_cases e : a ≠ b ∧ h a b = true
  · rw [if_pos e]; simp [List.filter, e.1, e.2]
  · rw [if_neg e]
    by_cases e1 : a = b
    · simp [List.filter, e1]
    · have : h a b = false := by cases k : h a b with
        | false => rfl
        | true => exact absurd ⟨e1, k⟩ e
      simp [List.filter, this]
theorem prs_succ (h : Nat → Nat → Bool) (n a b : Nat) : prs h n a (b + 1) = prs h n a b ++ if a ≠ b ∧ h a b = true then [(a, b)] else [] := by
  unfold prs; rw [rowK_succ, List.append_assoc]
theorem prs_next (h : Nat → Nat → Bool) (n a : Nat) : prs h n (a + 1) 0 = prs h n a n := by
  unfold prs; rw [List.range_succ, List.flatMap_append]; simp [rowK]
theorem rowK_len (h : Nat → Nat → Bool) (a b : Nat) : (rowK h a b).length ≤ b := by
  unfold rowK; rw [List.length_map]; exact Nat.le_trans (List.length_filter_le _ _) (by simp)
theorem prs_len {h : Nat → Nat → Bool} {n a b : Nat} (hn : n ≤ 6) (ha : a ≤ 6) (hb : b ≤ 6) : (prs h n a b).length ≤ 42 := by
  have h1 := rowK_len h a b
  have h2 := flatB_len (f := fun i => rowK h i n) (B := 6) (xs := List.range a) fun i _ => Nat.le_trans (rowK_len h i n) hn
  rw [List.length_range] at h2
  unfold prs; rw [List.length_append]; omega
structure PR where
  k : Nat
  v : Value
  Mo : HL
  n : Nat
attribute [local irreducible] gOK WS WC WR WD Ends FS YS OpV seqK blockK loopK midK retK rdK asgK rangeEnd sat Cell
section
variable {M : HL} {n0 : Nat} {H : Heap} {v w u : Value}
set_option maxHeartbeats 1000000 in
theorem cpairs_fs (hH : hasH M n0 H) {P : List (List Int)} (hP : SqP P) (hR : RowsI M v P) {f : FuncId} {h : Nat → Nat → Bool}
    (hf : ∀ {M' : HL} {n' : Nat} {H' : Heap} {a b : Nat}, hasH M' n' H' → RowsI M' v P → a < P.length → b < P.length → FS C f [v, .int .i64 (a : Int), .int .i64 (b : Int)] H' (fun e H'' => H'' = H' ∧ e = .bool (h a b))) :
    FS C 17 [v, .func (.func f) [].toArray [].toArray] H (fun e H' => ∃ n' M2, n0 ≤ n' ∧ hasH (M2 ++ M) n' H' ∧ Sl (M2 ++ M) 2 e (cellsF prV (prs h P.length P.length 0))) := by
  have hRR := hR
  obtain ⟨cws, hcS, hcl, hcrow⟩ := hR
  have hlen6 := hP.len
  refine FS.intro (pf := pf17) rfl rfl rfl ?_
  repeat' (first | refine zP ?_ | refine zA ?_ | (refine zM ?_; intro _ _) | refine zX ?_ | (refine zC ?_; intro _ _ _ _) | (refine zS ?_; intro _ _) | (apply Ws <;> intro hg))
  rw [hcl]
  refine WC.loopX [(0, _), (1, _), (8, _), (9, .int .i64 (P.length : Int))] (fun s : PR => [(5, s.v), (10, .int .i64 (s.k : Int))]) [] (fun s H' => s.k ≤ P.length ∧ n0 ≤ s.n ∧ Own 54 2 s.v (cellsF prV (prs h P.length s.k 0)) s.Mo ∧ hasH (s.Mo ++ M) s.n H') (fun s => P.length - s.k) ⟨0, .slice none 0 0, [], n0⟩ (by repeat' (first | exact .nil | refine .cons rfl ?_)) rfl
    ⟨Nat.zero_le _, Nat.le_refl _, .nil, hH⟩ ?_
  clear hH
  rintro ⟨a, va, Mo, n1⟩ H1 ⟨ha, hn1, hO, hH1⟩
  simp only at ha hn1 hO hH1
  dsimp only [List.cons_append, List.nil_append]
  repeat' (first | refine zP ?_ | refine zA ?_ | (refine zM ?_; intro _ _) | refine zX ?_ | (refine zC ?_; intro _ _ _ _) | (refine zS ?_; intro _ _) | (apply Ws <;> intro hg))
  refine WC.condP rfl (fun hlta => ?_) (fun hlta => ?_)
  · have ha' : a < P.length := by omega
    have hcS1 : Sl (Mo ++ M) 1 v cws := hcS.mono fun q hq => List.mem_append_right _ hq
    repeat' (first | refine zP ?_ | refine zA ?_ | (refine zM ?_; intro _ _) | refine zX ?_ | (refine zC ?_; intro _ _ _ _) | (refine zS ?_; intro _ _) | (apply Ws <;> intro hg))
    rw [hcl]
    refine WC.loopX [(0, _), (1, _), (6, .int .i64 (a : Int)), (8, _), (9, .int .i64 (P.length : Int)), (10, .int .i64 (a : Int)), (14, .int .i64 (P.length : Int))] (fun s : PR => [(5, s.v), (15, .int .i64 (s.k : Int))]) [] (fun s H' => s.k ≤ P.length ∧ n0 ≤ s.n ∧ Own 54 2 s.v (cellsF prV (prs h P.length a s.k)) s.Mo ∧ hasH (s.Mo ++ M) s.n H') (fun s => P.length - s.k) ⟨0, va, Mo, n1⟩ (by repeat' (first | exact .nil | refine .cons rfl ?_)) rfl
      ⟨Nat.zero_le _, hn1, hO, hH1⟩ ?_
    clear hH1 hO hcS1
    rintro ⟨b, vb, Mo, n2⟩ H2 ⟨hb, hn2, hO, hH2⟩
    simp only at hb hn2 hO hH2
    have hpl := prs_len (h := h) hlen6 (show a ≤ 6 by omega) (show b ≤ 6 by omega)
    have hsu := prs_succ h P.length a b
    dsimp only [List.cons_append, List.nil_append]
    repeat' (first | refine zP ?_ | refine zA ?_ | (refine zM ?_; intro _ _) | refine zX ?_ | (refine zC ?_; intro _ _ _ _) | (refine zS ?_; intro _ _) | (apply Ws <;> intro hg))
    refine WC.condP rfl (fun hltb => ?_) (fun hltb => ?_)
    · have hb' : b < P.length := by omega
      by_cases hab : a = b
      · have hab' : (a : Int) = (b : Int) := by omega
        rw [if_neg (fun k => k.1 hab), List.append_nil] at hsu
        repeat' (first | refine zP ?_ | refine zA ?_ | (refine zM ?_; intro _ _) | refine zX ?_ | (refine zC ?_; intro _ _ _ _) | (refine zS ?_; intro _ _) | refine zO ?_ | (apply Ws <;> intro hg))
        exact Ends.loop ⟨b + 1, vb, Mo, n2⟩ (by simp only; omega) (by repeat' (first | exact .nil | refine .cons rfl ?_)) rfl ⟨by simp only; omega, hn2, by simp only; rw [hsu]; exact hO, hH2⟩
      · have hab' : ¬ (a : Int) = (b : Int) := by omega
        repeat' (first | refine zP ?_ | refine zA ?_ | (refine zM ?_; intro _ _) | refine zX ?_ | (refine zC ?_; intro _ _ _ _) | (refine zS ?_; intro _ _) | refine zO ?_ | (apply Ws <;> intro hg))
        refine WR.callV (by first | exact gN | exact gS rfl) rfl rfl rfl (hf hH2 (hRR.mono fun q hq => List.mem_append_right _ hq) ha' hb') ?_
        rintro _ _ ⟨rfl, rfl⟩
        cases hh : h a b with
        | false =>
          rw [if_neg (fun k => by rw [k.2] at hh; cases hh), List.append_nil] at hsu
          repeat' (first | refine zP ?_ | refine zA ?_ | (refine zM ?_; intro _ _) | refine zX ?_ | (refine zC ?_; intro _ _ _ _) | (refine zS ?_; intro _ _) | (apply Ws <;> intro hg))
          exact Ends.loop ⟨b + 1, vb, Mo, n2⟩ (by simp only; omega) (by repeat' (first | exact .nil | refine .cons rfl ?_)) rfl ⟨by simp only; omega, hn2, by simp only; rw [hsu]; exact hO, hH2⟩
        | true =>
          rw [if_pos ⟨hab, hh⟩] at hsu
          repeat' (first | refine zP ?_ | refine zA ?_ | (refine zM ?_; intro _ _) | refine zX ?_ | (refine zC ?_; intro _ _ _ _) | (refine zS ?_; intro _ _) | (apply Ws <;> intro hg))
          refine WR.op (by first | exact gN | exact gS rfl) rfl (OpV.bldA (cs := [Value.int .i64 (a : Nat), .int .i64 (b : Nat)].toArray) rfl rfl) ?_
          refine WR.append1F [] Mo M rfl rfl rfl rfl hO hH2 (new := [.int .i64 (a : Nat), .int .i64 (b : Nat)]) (by rfl) rfl rfl (by decide) (by decide) (by rw [cellsF_len prV_len]; simp; omega) fun v3 M3 n3 H9 hO3 hH9 hn3 => ?_
          repeat' (first | refine zP ?_ | refine zA ?_ | (refine zM ?_; intro _ _) | refine zX ?_ | (refine zC ?_; intro _ _ _ _) | (refine zS ?_; intro _ _) | (apply Ws <;> intro hg))
          refine Ends.loop ⟨b + 1, v3, M3, n3⟩ (by simp only; omega) (by repeat' (first | exact .nil | refine .cons rfl ?_)) rfl ⟨by simp only; omega, by simp only; omega, ?_, hH9⟩
          simp only
          rw [hsu, ← pr_snoc]; exact hO3
    · have hbl : b = P.length := by omega
      subst hbl
      repeat' (first | refine zP ?_ | refine zA ?_ | (refine zM ?_; intro _ _) | refine zX ?_ | (refine zC ?_; intro _ _ _ _) | (refine zS ?_; intro _ _) | (apply Ws <;> intro hg))
      refine Ends.loop ⟨a + 1, vb, Mo, n2⟩ (by simp only; omega) (by repeat' (first | exact .nil | refine .cons rfl ?_)) rfl ⟨by simp only; omega, hn2, ?_, hH2⟩
      simp only
      rw [prs_next]; exact hO
  · have hal : a = P.length := by omega
    subst hal
    repeat' (first | refine zP ?_ | refine zA ?_ | (refine zM ?_; intro _ _) | refine zX ?_ | (refine zC ?_; intro _ _ _ _) | (refine zS ?_; intro _ _) | (apply Ws <;> intro hg))
    exact Ends.ret1 rfl ⟨n1, Mo, hn1, hH1, hO.sl M⟩
end
end Go.Proofs.Ytdlfikobjnjmaaa.Tt

/- Cost, Shows, Better; pairs of the law. -/
namespace Go.Proofs.Ytdlfikobjnjmaaa.Tt
open Go Go.Abs Go.Mth
set_option linter.unusedVariables false
set_option linter.unusedSimpArgs false
attribute [local irreducible] gOK WS WC WR WD Ends FS YS OpV seqK blockK loopK midK retK rdK asgK rangeEnd sat Cell
section
variable {M : HL} {n0 : Nat} {H : Heap} {v w u : Value}
theorem Shows_fs (hH : hasH M n0 H) {g : Nat} {S : List Sal} (hok : OKS g S) (hS : SalesI M v S) :
    FS C 8 [.int .i64 (g : Int), v] H (fun e H' => ∃ n' M2 u, n0 ≤ n' ∧ hasH (M2 ++ M) n' H' ∧ e = .tuple #[u, .int .i64 0] ∧ Sl (M2 ++ M) 2 u (cellsF prV (prs (gD (DP (matS S))) S.length S.length 0))) := by
  have h0 := err0 hok
  have hml := matS_len S
  refine FS.intro (pf := pf8) rfl rfl rfl ?_
  repeat' (first | refine zP ?_ | refine zA ?_ | (refine zM ?_; intro _ _) | refine zX ?_ | (refine zC ?_; intro _ _ _ _) | (refine zS ?_; intro _ _) | (apply Ws <;> intro hg))
  refine WR.call (by first | exact gN | exact gS rfl) rfl rfl (reckon_fs hH hS hok.lens g) ?_
  rintro _ H2 ⟨n2, M2, c, hn2, hH2, hu, rfl, ⟨he, rfl⟩ | ⟨_, _, hP, hR⟩⟩
  · exact absurd h0 he
  · clear hH
    rw [h0]
    repeat' (first | refine zP ?_ | refine zA ?_ | (refine zM ?_; intro _ _) | refine zX ?_ | (refine zC ?_; intro _ _ _ _) | (refine zS ?_; intro _ _) | refine zO ?_ | (apply Ws <;> intro hg))
    refine WR.call (by first | exact gN | exact gS rfl) rfl rfl (cpairs_fs hH2 hP hR (f := 18) (h := gD (DP (matS S))) fun k1 k2 k3 k4 => asGood_fs k1 hP k2 k3 k4) ?_
    rintro u H3 ⟨n3, M3, hn3, hH3, hSu⟩
    rw [hml] at hSu
    have hu1 := hSu.one_
    repeat' (first | refine zP ?_ | refine zA ?_ | (refine zM ?_; intro _ _) | refine zX ?_ | (refine zC ?_; intro _ _ _ _) | (refine zS ?_; intro _ _) | (apply Ws <;> intro hg))
    exact Ends.ret2 rfl rfl ⟨n3, M3 ++ M2, u, by omega, by rw [List.append_assoc]; exact hH3, rfl, by rw [List.append_assoc]; exact hSu⟩
theorem Better_fs (hH : hasH M n0 H) {g : Nat} {S : List Sal} (hok : OKS g S) (hS : SalesI M v S) :
    FS C 10 [.int .i64 (g : Int), v] H (fun e H' => ∃ n' M2 u, n0 ≤ n' ∧ hasH (M2 ++ M) n' H' ∧ e = .tuple #[u, .int .i64 0] ∧ Sl (M2 ++ M) 2 u (cellsF prV (prs (fun a b => decide (0 < DP (matS S) a b)) S.length S.length 0))) := by
  have h0 := err0 hok
  have hml := matS_len S
  refine FS.intro (pf := pf10) rfl rfl rfl ?_
  repeat' (first | refine zP ?_ | refine zA ?_ | (refine zM ?_; intro _ _) | refine zX ?_ | (refine zC ?_; intro _ _ _ _) | (refine zS ?_; intro _ _) | (apply Ws <;> intro hg))
  refine WR.call (by first | exact gN | exact gS rfl) rfl rfl (reckon_fs hH hS hok.lens g) ?_
  rintro _ H2 ⟨n2, M2, c, hn2, hH2, hu, rfl, ⟨he, rfl⟩ | ⟨_, _, hP, hR⟩⟩
  · exact absurd h0 he
  · clear hH
    rw [h0]
    repeat' (first | refine zP ?_ | refine zA ?_ | (refine zM ?_; intro _ _) | refine zX ?_ | (refine zC ?_; intro _ _ _ _) | (refine zS ?_; intro _ _) | refine zO ?_ | (apply Ws <;> intro hg))
    refine WR.call (by first | exact gN | exact gS rfl) rfl rfl (cpairs_fs hH2 hP hR (f := 19) (h := fun a b => decide (0 < DP (matS S) a b)) fun k1 k2 k3 k4 => better_fs k1 hP k2 k3 k4) ?_
    rintro u H3 ⟨n3, M3, hn3, hH3, hSu⟩
    rw [hml] at hSu
    have hu1 := hSu.one_
    repeat' (first | refine zP ?_ | refine zA ?_ | (refine zM ?_; intro _ _) | refine zX ?_ | (refine zC ?_; intro _ _ _ _) | (refine zS ?_; intro _ _) | (apply Ws <;> intro hg))
    exact Ends.ret2 rfl rfl ⟨n3, M3 ++ M2, u, by omega, by rw [List.append_assoc]; exact hH3, rfl, by rw [List.append_assoc]; exact hSu⟩
theorem lpairs_fs (hH : hasH M n0 H) {a b : List (Nat × Nat)} (hS : Sl M 2 v (cellsF prV a)) (hT : Sl M 2 w (cellsF prV b)) (ha : a.length ≤ 100000) (hab : a = b) :
    FS C 9 [v, w] H (fun e H' => H' = H ∧ e = .bool true) := by
  subst hab
  refine FS.intro (pf := pf9) rfl rfl rfl ?_
  repeat' (first | refine zP ?_ | refine zA ?_ | (refine zM ?_; intro _ _) | refine zX ?_ | (refine zC ?_; intro _ _ _ _) | (refine zS ?_; intro _ _) | (apply Ws <;> intro hg))
  refine WR.op (by first | exact gN | exact gS rfl) rfl (OpV.lenK prV_len (by decide) rfl hS) ?_
  repeat' (first | refine zP ?_ | refine zA ?_ | (refine zM ?_; intro _ _) | refine zX ?_ | (refine zC ?_; intro _ _ _ _) | (refine zS ?_; intro _ _) | (apply Ws <;> intro hg))
  refine WR.op (by first | exact gN | exact gS rfl) rfl (OpV.lenK prV_len (by decide) rfl hT) ?_
  repeat' (first | refine zP ?_ | refine zA ?_ | (refine zM ?_; intro _ _) | refine zX ?_ | (refine zC ?_; intro _ _ _ _) | (refine zS ?_; intro _ _) | refine zO ?_ | (apply Ws <;> intro hg))
  refine WC.loopX [(0, _), (1, _)] (fun k : Nat => [(5, .int .i64 (k : Int))]) [] (fun k H' => H' = H ∧ k ≤ a.length) (fun k => a.length - k) 0 (by repeat' (first | exact .nil | refine .cons rfl ?_)) rfl ⟨rfl, Nat.zero_le _⟩ ?_
  rintro k H1 ⟨rfl, hk⟩
  dsimp only [List.cons_append, List.nil_append]
  repeat' (first | refine zP ?_ | refine zA ?_ | (refine zM ?_; intro _ _) | refine zX ?_ | (refine zC ?_; intro _ _ _ _) | (refine zS ?_; intro _ _) | (apply Ws <;> intro hg))
  refine WR.op (by first | exact gN | exact gS rfl) rfl (OpV.lenK prV_len (by decide) rfl hS) ?_
  repeat' (first | refine zP ?_ | refine zA ?_ | (refine zM ?_; intro _ _) | refine zX ?_ | (refine zC ?_; intro _ _ _ _) | (refine zS ?_; intro _ _) | (apply Ws <;> intro hg))
  refine WC.condP rfl (fun hltk => ?_) (fun hltk => ?_)
  · have hk' : k < a.length := by omega
    repeat' (first | refine zP ?_ | refine zA ?_ | (refine zM ?_; intro _ _) | refine zX ?_ | (refine zC ?_; intro _ _ _ _) | (refine zS ?_; intro _ _) | (apply Ws <;> intro hg))
    refine WR.idxK prV_len (by decide) (by first | exact gN | exact gS rfl) rfl rfl hS rfl (by omega) fun b1 o1' u1' hC1 => ?_
    refine WR.op (by first | exact gN | exact gS rfl) rfl (OpV.loadK rfl hC1 hH rfl) ?_
    repeat' (first | refine zP ?_ | refine zA ?_ | (refine zM ?_; intro _ _) | refine zX ?_ | (refine zC ?_; intro _ _ _ _) | (refine zS ?_; intro _ _) | (apply Ws <;> intro hg))
    refine WR.idxK prV_len (by decide) (by first | exact gN | exact gS rfl) rfl rfl hT rfl (by omega) fun b2 o2' u2' hC2 => ?_
    refine WR.op (by first | exact gN | exact gS rfl) rfl (OpV.loadK rfl hC2 hH rfl) ?_
    refine WR.op (by first | exact gN | exact gS rfl) rfl (OpV.opAgg (neArrG _ _ _ _ _ _) (neArrOp _ _ _ _) rfl rfl rfl rfl) ?_
    rw [beq_self_eq_true, beq_self_eq_true]
    repeat' (first | refine zP ?_ | refine zA ?_ | (refine zM ?_; intro _ _) | refine zX ?_ | (refine zC ?_; intro _ _ _ _) | (refine zS ?_; intro _ _) | (apply Ws <;> intro hg))
    exact Ends.loop (k + 1) (by omega) (by repeat' (first | exact .nil | refine .cons rfl ?_)) rfl ⟨rfl, by omega⟩
  · repeat' (first | refine zP ?_ | refine zA ?_ | (refine zM ?_; intro _ _) | refine zX ?_ | (refine zC ?_; intro _ _ _ _) | (refine zS ?_; intro _ _) | (apply Ws <;> intro hg))
    exact Ends.ret1 rfl ⟨rfl, rfl⟩
end
end Go.Proofs.Ytdlfikobjnjmaaa.Tt
