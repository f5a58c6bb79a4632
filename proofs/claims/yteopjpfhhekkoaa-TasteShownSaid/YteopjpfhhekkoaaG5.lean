/- TasteShown: the walk. -/
import Derived.Test.YteopjpfhhekkoaaJ4
namespace Go.Proofs.Yteopjpfhhekkoaa.Tt
open Go Go.Abs Go.Mth
set_option linter.unusedVariables false
set_option linter.unusedSimpArgs false
theorem dom {p x y : List Int} (hp : ∀ q ∈ p, 1 ≤ q) : ∀ k, k ≤ p.length → (∀ j, j < k → y.getD j 0 ≤ x.getD j 0) → dotI p y k ≤ dotI p x k ∧ ((∃ j, j < k ∧ y.getD j 0 < x.getD j 0) → dotI p y k < dotI p x k)
  | 0, _, _ => ⟨Int.le_refl _, fun ⟨j, h, _⟩ => absurd h (Nat.not_lt_zero _)⟩
  | k + 1, h, hd => by
    have ih := dom hp k (by omega) fun j hj => hd j (by omega)
    have h1 := hp _ (getD_mem (a := 0) (show k < p.length by omega))
    have h2 := hd k (by omega)
    have h3 : p.getD k 0 * y.getD k 0 ≤ p.getD k 0 * x.getD k 0 := Int.mul_le_mul_of_nonneg_left h2 (by omega)
    simp only [dotI]
    refine ⟨by omega, fun ⟨j, hj, hlt⟩ => ?_⟩
    by_cases e : j = k
    · subst e
      have h4 : p.getD j 0 * y.getD j 0 < p.getD j 0 * x.getD j 0 := Int.mul_lt_mul_of_pos_left hlt (by omega)
      omega
    · have := ih.2 ⟨j, by omega, hlt⟩
      omega
def anyGt (x y : List Int) (k : Nat) : Bool := (List.range k).any fun j => decide (y.getD j 0 < x.getD j 0)
theorem anyGt_succ (x y : List Int) (k : Nat) : anyGt x y (k + 1) = (anyGt x y k || decide (y.getD k 0 < x.getD k 0)) := by
  unfold anyGt; rw [List.range_succ, List.any_append]; simp
theorem anyGt_iff {x y : List Int} {k : Nat} : anyGt x y k = true ↔ ∃ j, j < k ∧ y.getD j 0 < x.getD j 0 := by
  unfold anyGt
  simp only [List.any_eq_true, List.mem_range, decide_eq_true_eq]
theorem OKS.dom {g : Nat} {S : List Sal} (h : OKS g S) {a b : Nat} (ha : a < S.length) (hb : b < S.length) (h1 : anyGt (S.getD a noSal).2 (S.getD b noSal).2 g = true) (h2 : anyGt (S.getD b noSal).2 (S.getD a noSal).2 g = false) : 0 < DP (matS S) a b := by
  rw [DP_cs ha hb]
  have hl := h.lp a ha
  have := (Tt.dom (p := (S.getD a noSal).1) (x := (S.getD a noSal).2) (y := (S.getD b noSal).2) (fun q hq => (h.bp a ha q hq).1) g (by omega) fun j hj => by
    apply Int.not_lt.1
    intro k
    have : anyGt (S.getD b noSal).2 (S.getD a noSal).2 g = true := anyGt_iff.2 ⟨j, hj, k⟩
    rw [h2] at this; cases this).2 (anyGt_iff.1 h1)
  unfold cs
  rw [hl]; omega
structure SV where
  k : Nat
  a : Value
  b : Value
  Ma : HL
  Mb : HL
  n : Nat
theorem use_tail {C : CW} {ro : Option Nat} {fn : FuncId} {nt : Nat} {α : Type} {P : α → Heap → Prop} {E : α → Env} {code : PC} {K : Ex → St → Prop} {G : Prop} (tail : ∀ s H', P s H' → WC C ro fn nt code (E s) [] H' K) (main : (∀ s H', P s H' → WC C ro fn nt code (E s) [] H' K) → G) : G := main tail
attribute [local irreducible] gOK WS WC WR WD Ends FS YS OpV seqK blockK loopK midK retK rdK asgK rangeEnd sat Cell
section
variable {M : HL} {n0 : Nat} {H : Heap} {v w u : Value}
set_option maxHeartbeats 16000000 in
theorem TasteShown_fs (hH : hasH M n0 H) {xs : List Nat} (hl : xs.length = 39) (hb : ∀ x ∈ xs, x ≤ 255) {oa : Nat} (hoa : oa ≤ 255) {ob : Nat} (hob : ob ≤ 255) :
    FS C 9 [.agg (numsK .u8 xs).toArray, .int .u8 (oa : Int), .int .u8 (ob : Int)] H (fun e H' => e = .bool true) := by
  have hoN := numsK_one .u8 xs
  have hxl : (numsK .u8 xs).length = 39 := by simpa using hl
  refine FS.intro (pf := pf9) rfl rfl rfl ?_
  repeat' (first | refine zP ?_ | refine zA ?_ | (refine zM ?_; intro _ _) | refine zX ?_ | (refine zC ?_; intro _ _ _ _) | (refine zS ?_; intro _ _) | (apply Ws <;> intro hg))
  rename_i H1 hH1
  clear hH
  refine WR.call (by first | exact gN | exact gS rfl) rfl rfl (made_fs hH1 hl hb (most := 5) (by omega)) ?_
  rintro _ H4 ⟨S, v, n4, M4, hSE, hSl, hn4, hH4, hS, rfl⟩
  obtain ⟨g, hg⟩ : ∃ g, 1 + xs.getD 0 0 % 3 = g := ⟨_, rfl⟩
  rw [hg] at hSE
  have hmod := Nat.mod_lt (xs.getD 1 0) (show 0 < 5 + 1 by omega)
  have hok : OKS g S := .of (by omega) (by omega) (by omega) hSE
  have hlen := hok.len
  have hg3 := hok.g3
  have h0 := err0 hok
  have hlenS := hok.lens
  have hml := matS_len S
  rw [hg]
  generalize M4 ++ (n0, Ch.row 61 0 0 (numsK .u8 xs)) :: M = T at hH4 hS
  clear hH1 hSE hSl hmod hg hoN hxl hl hb
  have hv := hS.one_
  obtain ⟨ws0, hV0, hwl0, hrow0⟩ := hS.at
  repeat' (first | refine zP ?_ | refine zA ?_ | (refine zM ?_; intro _ _) | refine zX ?_ | (refine zC ?_; intro _ _ _ _) | (refine zS ?_; intro _ _) | (apply Ws <;> intro hg))
  rename_i H5 hH5 H6 hH6
  replace hH6 : hasH ((n4, Ch.row 22 0 0 [v]) :: T) (n4 + 1) H6 := hH6
  replace hS := hS.cons (p := (n4, Ch.row 22 0 0 [v]))
  replace hV0 := hV0.cons (p := (n4, Ch.row 22 0 0 [v]))
  have mS : (n4, Ch.row 22 0 0 [v]) ∈ (n4, Ch.row 22 0 0 [v]) :: T := .head _
  obtain ⟨n5, hn5, hn45⟩ : ∃ n5, n4 + 1 = n5 ∧ n4 ≤ n5 := ⟨_, rfl, by omega⟩
  rw [hn5] at hH6
  have hrow1 : ∀ i, i < S.length → Sl ((n4, Ch.row 22 0 0 [v]) :: T) 1 (ws0.getD i noVal).1 (ints (S.getD i noSal).1) ∧ Sl ((n4, Ch.row 22 0 0 [v]) :: T) 1 (ws0.getD i noVal).2 (ints (S.getD i noSal).2) := fun i hi => ⟨(hrow0 i hi).1.cons, (hrow0 i hi).2.cons⟩
  clear hn5 hH4 hH5 hrow0
  generalize (n4, Ch.row 22 0 0 [v]) :: T = T at hH6 hS hV0 mS hrow1
  refine WR.op (by first | exact gN | exact gS rfl) rfl (OpV.lenK pairV_len (by decide) rfl hV0) ?_
  rw [hwl0]
  repeat' (first | refine zP ?_ | refine zA ?_ | (refine zM ?_; intro _ _) | refine zX ?_ | (refine zC ?_; intro _ _ _ _) | (refine zS ?_; intro _ _) | (apply Ws <;> intro hg))
  refine WC.loopX [(1, _), (2, _), (7, .int .i64 (g : Int)), (8, .pointer (some ⟨n4, 0, some 0⟩)), (38, v), (39, .int .i64 (S.length : Int))] (fun s : SV => [(9, s.a), (10, s.b), (40, .int .i64 (s.k : Int))]) [] (fun s H' => s.k ≤ S.length ∧ n5 ≤ s.n ∧ Own 76 2 s.a (cellsF prV (prs (gD (DP (matS S))) S.length s.k 0)) s.Ma ∧ Own 76 2 s.b (cellsF prV (prs (fun a b => decide (0 < DP (matS S) a b)) S.length s.k 0)) s.Mb ∧ hasH (s.Ma ++ (s.Mb ++ T)) s.n H') (fun s => S.length - s.k) ⟨0, .slice none 0 0, .slice none 0 0, [], [], n5⟩ (by repeat' (first | exact .nil | refine .cons rfl ?_)) rfl
    ⟨Nat.zero_le _, Nat.le_refl _, .nil, .nil, hH6⟩ ?_
  clear hH6
  rintro ⟨a, va, vb, Ma, Mb, n6⟩ H6 ⟨ha, hn6, hOa, hOb, hH6⟩
  simp only at ha hn6 hOa hOb hH6
  dsimp only [List.cons_append, List.nil_append]
  repeat' (first | refine zP ?_ | refine zA ?_ | (refine zM ?_; intro _ _) | refine zX ?_ | (refine zC ?_; intro _ _ _ _) | (refine zS ?_; intro _ _) | (apply Ws <;> intro hg))
  refine WC.condP rfl (fun hlta => ?_) (fun hlta => ?_)
  rotate_left
  · have hal : a = S.length := by omega
    subst hal
    have mem6 : ∀ q ∈ T, q ∈ Ma ++ (Mb ++ T) := fun q hq => List.mem_append_right _ (List.mem_append_right _ hq)
    have hSa := hOa.sl (Mb ++ T)
    have hSb : Sl (Ma ++ (Mb ++ T)) 2 vb (cellsF prV (prs (fun a b => decide (0 < DP (matS S) a b)) S.length S.length 0)) := (hOb.sl T).mono fun q hq => List.mem_append_right _ hq
    replace hS := hS.mono mem6
    replace mS := mem6 _ mS
    clear hOa hOb hrow1 hV0 mem6
    generalize Ma ++ (Mb ++ T) = T at hH6 hS mS hSa hSb
    have hla := prs_len (h := gD (DP (matS S))) hlen hlen (show 0 ≤ 6 by omega)
    have hlb := prs_len (h := fun a b => decide (0 < DP (matS S) a b)) hlen hlen (show 0 ≤ 6 by omega)
    repeat' (first | refine zP ?_ | refine zA ?_ | (refine zM ?_; intro _ _) | refine zX ?_ | (refine zC ?_; intro _ _ _ _) | (refine zS ?_; intro _ _) | (apply Ws <;> intro hg))
    refine WR.call (by first | exact gN | exact gS rfl) rfl rfl (Shows_fs hH6 hok hS) ?_
    rintro _ H7 ⟨n7, M7, v7, hn7, hH7, rfl, hS7⟩
    have hv71 := hS7.one_
    replace hS := hS.mono (M' := M7 ++ T) fun q hq => List.mem_append_right _ hq
    replace hSa := hSa.mono (M' := M7 ++ T) fun q hq => List.mem_append_right _ hq
    replace hSb := hSb.mono (M' := M7 ++ T) fun q hq => List.mem_append_right _ hq
    replace mS := List.mem_append_right M7 mS
    clear hH6
    generalize M7 ++ T = T at hH7 hS mS hSa hSb hS7
    repeat' (first | refine zP ?_ | refine zA ?_ | (refine zM ?_; intro _ _) | refine zX ?_ | (refine zC ?_; intro _ _ _ _) | (refine zS ?_; intro _ _) | (apply Ws <;> intro hg))
    refine WR.call (by first | exact gN | exact gS rfl) rfl rfl (Better_fs hH7 hok hS) ?_
    rintro _ H8 ⟨n8, M8, v8, hn8, hH8, rfl, hS8⟩
    have hv81 := hS8.one_
    replace hS := hS.mono (M' := M8 ++ T) fun q hq => List.mem_append_right _ hq
    replace hSa := hSa.mono (M' := M8 ++ T) fun q hq => List.mem_append_right _ hq
    replace hSb := hSb.mono (M' := M8 ++ T) fun q hq => List.mem_append_right _ hq
    replace hS7 := hS7.mono (M' := M8 ++ T) fun q hq => List.mem_append_right _ hq
    replace mS := List.mem_append_right M8 mS
    clear hH7
    generalize M8 ++ T = T at hH8 hS mS hSa hSb hS7 hS8
    repeat' (first | refine zP ?_ | refine zA ?_ | (refine zM ?_; intro _ _) | refine zX ?_ | (refine zC ?_; intro _ _ _ _) | (refine zS ?_; intro _ _) | refine zO ?_ | (apply Ws <;> intro hg))
    refine WR.call (by first | exact gN | exact gS rfl) rfl rfl (lpairs_fs hH8 hS7 hSa (by omega) rfl) ?_
    rintro _ _ ⟨rfl, rfl⟩
    repeat' (first | refine zP ?_ | refine zA ?_ | (refine zM ?_; intro _ _) | refine zX ?_ | (refine zC ?_; intro _ _ _ _) | (refine zS ?_; intro _ _) | (apply Ws <;> intro hg))
    refine WR.call (by first | exact gN | exact gS rfl) rfl rfl (lpairs_fs hH8 hS8 hSb (by omega) rfl) ?_
    rintro _ _ ⟨rfl, rfl⟩
    clear hSa hSb hS7 hS8
    obtain ⟨ws1, hV1, hwl1, _⟩ := hS.at
    repeat' (first | refine zP ?_ | refine zA ?_ | (refine zM ?_; intro _ _) | refine zX ?_ | (refine zC ?_; intro _ _ _ _) | (refine zS ?_; intro _ _) | (apply Ws <;> intro hg))
    refine WR.op (by first | exact gN | exact gS rfl) rfl (OpV.lenK pairV_len (by decide) rfl hV1) ?_
    rw [hwl1]
    repeat' (first | refine zP ?_ | refine zA ?_ | (refine zM ?_; intro _ _) | refine zX ?_ | (refine zC ?_; intro _ _ _ _) | (refine zS ?_; intro _ _) | (apply Ws <;> intro hg))
    refine WR.call (by first | exact gN | exact gS rfl) rfl rfl (Least_fs hH8 hok hS S.length 0) ?_
    rintro _ H9 ⟨n9, M9, hn9, hH9, ⟨⟨hf, _⟩, _⟩ | ⟨_, rfl⟩⟩
    · omega
    · replace hH9 := hH9.sub (List.sublist_append_right _ _)
      clear hH8 hV1
      have hfin : ∀ {H' : Heap}, FS C 16 [] H' (fun e H'' => e = .bool true ∧ H'' = H') := fun {H'} => FS.works ⟨rfl, rfl⟩
      by_cases hn0 : S.length = 0
      · have hn0' : (S.length : Int) = 0 := by omega
        repeat' (first | refine zP ?_ | refine zA ?_ | (refine zM ?_; intro _ _) | refine zX ?_ | (refine zC ?_; intro _ _ _ _) | (refine zS ?_; intro _ _) | refine zO ?_ | (apply Ws <;> intro hg))
        refine WR.call (by first | exact gN | exact gS rfl) rfl rfl hfin ?_
        rintro _ _ ⟨rfl, rfl⟩
        repeat' (first | refine zP ?_ | refine zA ?_ | (refine zM ?_; intro _ _) | refine zX ?_ | (refine zC ?_; intro _ _ _ _) | (refine zS ?_; intro _ _) | refine zO ?_ | (apply Ws <;> intro hg))
        exact Ends.ret1 rfl rfl
      · have hn0' : ¬ (S.length : Int) = 0 := by omega
        have hpos : 0 < (S.length : Int) := by omega
        have hma := Nat.mod_lt oa (show 0 < S.length by omega)
        have hmb := Nat.mod_lt ob (show 0 < S.length by omega)
        repeat' (first | refine zP ?_ | refine zA ?_ | (refine zM ?_; intro _ _) | refine zX ?_ | (refine zC ?_; intro _ _ _ _) | (refine zS ?_; intro _ _) | refine zO ?_ | (apply Ws <;> intro hg))
        refine WR.op (by first | exact gN | exact gS rfl) rfl (OpV.conv u8k i64k rfl (c := (oa : Int)) (IntWalk.i64_in _ (by omega))) ?_
        repeat' (first | refine zP ?_ | refine zA ?_ | (refine zM ?_; intro _ _) | refine zX ?_ | (refine zC ?_; intro _ _ _ _) | (refine zS ?_; intro _ _) | refine zO ?_ | (apply Ws <;> intro hg))
        refine WR.op (by first | exact gN | exact gS rfl) rfl (OpV.conv u8k i64k rfl (c := (ob : Int)) (IntWalk.i64_in _ (by omega))) ?_
        repeat' (first | refine zP ?_ | refine zA ?_ | (refine zM ?_; intro _ _) | refine zX ?_ | (refine zC ?_; intro _ _ _ _) | (refine zS ?_; intro _ _) | refine zO ?_ | (apply Ws <;> intro hg))
        have hAe : (oa : Int) % (S.length : Int) = ((oa % S.length : Nat) : Int) := by simp
        have hBe : (ob : Int) % (S.length : Int) = ((ob % S.length : Nat) : Int) := by simp
        rename_i Hx1 hHx1 Hx2 hHx2 Hx3 hHx3 H10 hH10
        clear hHx1 hHx2 hHx3
        rw [hAe, hBe] at hH10
        rw [hAe, hBe]
        clear hAe hBe
        generalize oa % S.length = A at hma hH10 ⊢
        generalize ob % S.length = B at hmb hH10 ⊢
        obtain ⟨bC, hbC⟩ : ∃ bC, n9 + 1 = bC := ⟨_, rfl⟩
        obtain ⟨bB, hbB⟩ : ∃ bB, n9 + 1 + 1 = bB := ⟨_, rfl⟩
        obtain ⟨n10, hn10⟩ : ∃ n10, n9 + 1 + 1 + 1 = n10 := ⟨_, rfl⟩
        replace hH10 : hasH ((n9 + 1 + 1, Ch.row 39 0 0 [.slice none 0 0]) :: (n9 + 1, Ch.row 3 0 0 [.int .i64 (B : Int)]) :: (n9, Ch.row 3 0 0 [.int .i64 (A : Int)]) :: T) (n9 + 1 + 1 + 1) H10 := hH10
        rw [hn10, hbB, hbC] at hH10
        rw [hbB, hbC]
        have mA : (n9, Ch.row 3 0 0 [.int .i64 (A : Int)]) ∈ (bC, Ch.row 3 0 0 [.int .i64 (B : Int)]) :: (n9, Ch.row 3 0 0 [.int .i64 (A : Int)]) :: T := .tail _ (.head _)
        have mC : (bC, Ch.row 3 0 0 [.int .i64 (B : Int)]) ∈ (bC, Ch.row 3 0 0 [.int .i64 (B : Int)]) :: (n9, Ch.row 3 0 0 [.int .i64 (A : Int)]) :: T := .head _
        replace mS : (n4, Ch.row 22 0 0 [v]) ∈ (bC, Ch.row 3 0 0 [.int .i64 (B : Int)]) :: (n9, Ch.row 3 0 0 [.int .i64 (A : Int)]) :: T := .tail _ (.tail _ mS)
        replace hS := hS.mono (M' := (bC, Ch.row 3 0 0 [.int .i64 (B : Int)]) :: (n9, Ch.row 3 0 0 [.int .i64 (A : Int)]) :: T) fun q hq => .tail _ (.tail _ hq)
        generalize (bC, Ch.row 3 0 0 [.int .i64 (B : Int)]) :: (n9, Ch.row 3 0 0 [.int .i64 (A : Int)]) :: T = X at hH10 hS mS mA mC
        replace hH10 : hasH ([(bB, Ch.row 39 0 0 [.slice none 0 0])] ++ X) n10 H10 := hH10
        have hmaS := hma
        have hmbS := hmb
        clear hH9 hbC hbB hn10
        refine WR.call (by first | exact gN | exact gS rfl) rfl rfl (all_fs (N := S.length) (g := 51) (vb := [ptrT n9, ptrT bC, ptrT n4, ptrT bB]) hlen hH10
          (J := fun zs Mc X => ∃ ds vb bo, ds ++ zs = preL S.length S.length [] ∧ BestQ (goP (DP (matS S)) A B) ds bo ∧ OptV X vb bo ∧ Mc = [(bB, Ch.row 39 0 0 [vb])])
          ⟨[], _, none, rfl, (fun d hd => by cases hd), rfl, rfl⟩ (fun zs Mc X X' ⟨ds, vb, bo, k1, k2, k3, k4⟩ h => ⟨ds, vb, bo, k1, k2, k3.mono h, k4⟩) ?_) ?_
        · rintro z zs Mc X' u n' H' ⟨ds, vb, bo, hds, hB, hvb, rfl⟩ hz0 hzd hZ hX hH'
          refine FS.mono (shown1_fs hok (hS.mono hX) (hX _ mS) (hX _ mA) (hX _ mC) hB hvb (fun m hm => (mem_pre.1 (by rw [← hds]; exact List.mem_append_left _ hm)).2) hz0 hzd hZ hH') ?_
          rintro _ H2 ⟨n2, vb2, bo2, hn2, hB2, hvb2, hH2⟩
          exact ⟨[(bB, Ch.row 39 0 0 [vb2])], X', n2, hn2, fun q hq => hq, ⟨ds ++ [z], vb2, bo2, by rw [← hds]; simp, hB2, hvb2, rfl⟩, hH2⟩
        · rintro _ H11 ⟨Mc2, X2, n11, hn11, hX2, ⟨ds, vc, bo, hds, hB, hvb, rfl⟩, hH11⟩
          rw [List.append_nil] at hds
          subst hds
          have hbo := hB.least hml
          have hvb1 := hvb.one_
          replace hS := hS.mono (M' := (bB, Ch.row 39 0 0 [vc]) :: X2) fun q hq => .tail _ (hX2 _ hq)
          replace mS : (n4, Ch.row 22 0 0 [v]) ∈ (bB, Ch.row 39 0 0 [vc]) :: X2 := .tail _ (hX2 _ mS)
          replace mA : (n9, Ch.row 3 0 0 [.int .i64 (A : Int)]) ∈ (bB, Ch.row 39 0 0 [vc]) :: X2 := .tail _ (hX2 _ mA)
          replace mC : (bC, Ch.row 3 0 0 [.int .i64 (B : Int)]) ∈ (bB, Ch.row 39 0 0 [vc]) :: X2 := .tail _ (hX2 _ mC)
          have mB : (bB, Ch.row 39 0 0 [vc]) ∈ (bB, Ch.row 39 0 0 [vc]) :: X2 := .head _
          replace hvb := hvb.mono (M' := (bB, Ch.row 39 0 0 [vc]) :: X2) fun q hq => .tail _ hq
          replace hH11 : hasH ((bB, Ch.row 39 0 0 [vc]) :: X2) n11 H11 := hH11
          clear hH10 hX2
          generalize (bB, Ch.row 39 0 0 [vc]) :: X2 = Y at hH11 hS mS mA mC mB hvb
          repeat' (first | refine zP ?_ | refine zA ?_ | (refine zM ?_; intro _ _) | refine zX ?_ | (refine zC ?_; intro _ _ _ _) | (refine zS ?_; intro _ _) | (apply Ws <;> intro hg))
          refine WR.call (by first | exact gN | exact gS rfl) rfl rfl (Least_fs hH11 hok hS A B) ?_
          rintro _ H12 ⟨n12, M12, hn12, hH12, hout⟩
          replace mB := List.mem_append_right M12 mB
          replace hvb := hvb.mono (M' := M12 ++ Y) fun q hq => List.mem_append_right _ hq
          clear hH11 hS mS mA mC
          generalize M12 ++ Y = Y at hH12 mB hvb hout
          rcases hout with ⟨_, ⟨z, u, hz, hu1, hSz, rfl⟩ | ⟨hz, rfl⟩⟩ | ⟨hf, _⟩
          · obtain rfl : bo = some z := by rw [← hbo]; exact hz
            obtain ⟨bz, oz, uz, cz, hve, hSv⟩ := OptV.shape hvb
            have hzlen : z.length ≤ 100000 := by have := (mem_pre.1 hB.1).2.len; omega
            subst hve
            repeat' (first | refine zP ?_ | refine zA ?_ | (refine zM ?_; intro _ _) | refine zX ?_ | (refine zC ?_; intro _ _ _ _) | (refine zS ?_; intro _ _) | (apply Ws <;> intro hg))
            refine WR.call (by first | exact gN | exact gS rfl) rfl rfl (sameN_fs hH12 hSz hSv hzlen) ?_
            rintro _ _ ⟨rfl, rfl⟩
            rw [decide_eq_true (show z = z from rfl)]
            repeat' (first | refine zP ?_ | refine zA ?_ | (refine zM ?_; intro _ _) | refine zX ?_ | (refine zC ?_; intro _ _ _ _) | (refine zS ?_; intro _ _) | refine zO ?_ | (apply Ws <;> intro hg))
            refine WR.call (by first | exact gN | exact gS rfl) rfl rfl hfin ?_
            rintro _ _ ⟨rfl, rfl⟩
            repeat' (first | refine zP ?_ | refine zA ?_ | (refine zM ?_; intro _ _) | refine zX ?_ | (refine zC ?_; intro _ _ _ _) | (refine zS ?_; intro _ _) | (apply Ws <;> intro hg))
            exact Ends.ret1 rfl rfl
          · obtain rfl : bo = none := by rw [← hbo]; exact hz
            obtain rfl : vc = .slice none 0 0 := hvb
            repeat' (first | refine zP ?_ | refine zA ?_ | (refine zM ?_; intro _ _) | refine zX ?_ | (refine zC ?_; intro _ _ _ _) | (refine zS ?_; intro _ _) | refine zO ?_ | (apply Ws <;> intro hg))
            refine WR.call (by first | exact gN | exact gS rfl) rfl rfl hfin ?_
            rintro _ _ ⟨rfl, rfl⟩
            repeat' (first | refine zP ?_ | refine zA ?_ | (refine zM ?_; intro _ _) | refine zX ?_ | (refine zC ?_; intro _ _ _ _) | (refine zS ?_; intro _ _) | (apply Ws <;> intro hg))
            exact Ends.ret1 rfl rfl
          · exact absurd ⟨hmaS, hmbS⟩ hf
  · have ha' : a < S.length := by omega
    obtain ⟨hpa, hta⟩ := hrow1 a ha'
    have hwk : ws0[a] = ws0.getD a noVal := (getD_eq (by omega)).symm
    have hone := one2 hpa.one_ hta.one_
    have hVV : Sl (Ma ++ (Mb ++ T)) 2 v (cellsF pairV ws0) := hV0.mono fun q hq => by simp [hq]
    repeat' (first | refine zP ?_ | refine zA ?_ | (refine zM ?_; intro _ _) | refine zX ?_ | (refine zC ?_; intro _ _ _ _) | (refine zS ?_; intro _ _) | (apply Ws <;> intro hg))
    refine WR.idxK pairV_len (by decide) (by first | exact gN | exact gS rfl) rfl rfl hVV rfl (by omega) fun b1 oa' u1' hC => ?_
    rw [hwk] at hC
    obtain ⟨w12, hw12⟩ : ∃ w12, ws0.getD a noVal = w12 := ⟨_, rfl⟩
    rw [hw12] at hpa hta hC hone
    obtain ⟨w1, w2⟩ := w12
    simp only at hpa hta hone
    refine WR.op (by first | exact gN | exact gS rfl) rfl (OpV.loadK rfl hC hH6 rfl) ?_
    repeat' (first | refine zP ?_ | refine zA ?_ | (refine zM ?_; intro _ _) | refine zX ?_ | (refine zC ?_; intro _ _ _ _) | (refine zS ?_; intro _ _) | (apply Ws <;> intro hg))
    rename_i H7 hH7
    refine WR.storeAll (by first | exact gN | exact gS rfl) hH7 rfl rfl (ls := [w1, w2]) rfl rfl .here hone rfl fun H8 hH8 => ?_
    clear hH7 hH6 hC hVV
    have mS8 : (n4, Ch.row 22 0 0 [v]) ∈ (n6, Ch.row 74 0 0 [w1, w2]) :: (Ma ++ (Mb ++ T)) := .tail _ (List.mem_append_right _ (List.mem_append_right _ mS))
    have hVV : Sl ((n6, Ch.row 74 0 0 [w1, w2]) :: (Ma ++ (Mb ++ T))) 2 v (cellsF pairV ws0) := hV0.mono fun q hq => by simp [hq]
    repeat' (first | refine zP ?_ | refine zA ?_ | (refine zM ?_; intro _ _) | refine zX ?_ | (refine zC ?_; intro _ _ _ _) | (refine zS ?_; intro _ _) | (apply Ws <;> intro hg))
    refine WR.op (by first | exact gN | exact gS rfl) rfl (OpV.lenK pairV_len (by decide) rfl hVV) ?_
    rw [hwl0]
    repeat' (first | refine zP ?_ | refine zA ?_ | (refine zM ?_; intro _ _) | refine zX ?_ | (refine zC ?_; intro _ _ _ _) | (refine zS ?_; intro _ _) | (apply Ws <;> intro hg))
    refine WC.loopX [(1, _), (2, _), (7, .int .i64 (g : Int)), (8, .pointer (some ⟨n4, 0, some 0⟩)), (11, .int .i64 (a : Int)), (12, .pointer (some ⟨n6, 0, some 0⟩)), (38, v), (39, .int .i64 (S.length : Int)), (40, .int .i64 (a : Int)), (45, v), (46, .int .i64 (S.length : Int))] (fun s : SV => [(9, s.a), (10, s.b), (47, .int .i64 (s.k : Int))]) [] (fun s H' => s.k ≤ S.length ∧ n5 ≤ s.n ∧ Own 76 2 s.a (cellsF prV (prs (gD (DP (matS S))) S.length a s.k)) s.Ma ∧ Own 76 2 s.b (cellsF prV (prs (fun a b => decide (0 < DP (matS S) a b)) S.length a s.k)) s.Mb ∧ hasH ((n6, .row 74 0 0 [w1, w2]) :: (s.Ma ++ (s.Mb ++ T))) s.n H') (fun s => S.length - s.k) ⟨0, va, vb, Ma, Mb, n6 + 1⟩ (by repeat' (first | exact .nil | refine .cons rfl ?_)) rfl
      ⟨Nat.zero_le _, by simp only; omega, hOa, hOb, hH8⟩ ?_
    clear hH8 hOa hOb mS8 hVV
    rintro ⟨b, va, vb, Ma, Mb, n7⟩ H9 ⟨hb, hn7, hOa, hOb, hH9⟩
    simp only at hb hn7 hOa hOb hH9
    have hsa := prs_succ (gD (DP (matS S))) S.length a b
    have hsb := prs_succ (fun a b => decide (0 < DP (matS S) a b)) S.length a b
    have hla := prs_len (h := gD (DP (matS S))) hlen (show a ≤ 6 by omega) (show b ≤ 6 by omega)
    have hlb := prs_len (h := fun a b => decide (0 < DP (matS S) a b)) hlen (show a ≤ 6 by omega) (show b ≤ 6 by omega)
    dsimp only [List.cons_append, List.nil_append]
    repeat' (first | refine zP ?_ | refine zA ?_ | (refine zM ?_; intro _ _) | refine zX ?_ | (refine zC ?_; intro _ _ _ _) | (refine zS ?_; intro _ _) | (apply Ws <;> intro hg))
    refine WC.condP rfl (fun hltb => ?_) (fun hltb => ?_)
    · have hb' : b < S.length := by omega
      obtain ⟨hpb, htb⟩ := hrow1 b hb'
      have hwk2 : ws0[b] = ws0.getD b noVal := (getD_eq (by omega)).symm
      have hone2 := one2 hpb.one_ htb.one_
      have hVV : Sl ((n6, Ch.row 74 0 0 [w1, w2]) :: (Ma ++ (Mb ++ T))) 2 v (cellsF pairV ws0) := hV0.mono fun q hq => by simp [hq]
      repeat' (first | refine zP ?_ | refine zA ?_ | (refine zM ?_; intro _ _) | refine zX ?_ | (refine zC ?_; intro _ _ _ _) | (refine zS ?_; intro _ _) | (apply Ws <;> intro hg))
      refine WR.idxK pairV_len (by decide) (by first | exact gN | exact gS rfl) rfl rfl hVV rfl (by omega) fun b2 o2' u2' hC2 => ?_
      rw [hwk2] at hC2
      obtain ⟨w34, hw34⟩ : ∃ w34, ws0.getD b noVal = w34 := ⟨_, rfl⟩
      rw [hw34] at hpb htb hC2 hone2
      obtain ⟨w3, w4⟩ := w34
      simp only at hpb htb hone2
      refine WR.op (by first | exact gN | exact gS rfl) rfl (OpV.loadK rfl hC2 hH9 rfl) ?_
      repeat' (first | refine zP ?_ | refine zA ?_ | (refine zM ?_; intro _ _) | refine zX ?_ | (refine zC ?_; intro _ _ _ _) | (refine zS ?_; intro _ _) | (apply Ws <;> intro hg))
      rename_i H10 hH10
      refine WR.storeAll (by first | exact gN | exact gS rfl) hH10 rfl rfl (ls := [w3, w4]) rfl rfl .here hone2 rfl fun H11 hH11 => ?_
      clear hH10 hH9 hC2 hVV
      have mem : ∀ {Ma Mb : HL}, ∀ q ∈ T, q ∈ (n7, Ch.row 74 0 0 [w3, w4]) :: (n6, Ch.row 74 0 0 [w1, w2]) :: (Ma ++ (Mb ++ T)) := fun q hq => .tail _ (.tail _ (List.mem_append_right _ (List.mem_append_right _ hq)))
      have mS1 := mem (Ma := Ma) (Mb := Mb) _ mS
      have hS1 := hS.mono (mem (Ma := Ma) (Mb := Mb))
      have hca := hok.cs_bd ha' ha'
      have hcb := hok.cs_bd ha' hb'
      have hDP := DP_cs ha' hb'
      repeat' (first | refine zP ?_ | refine zA ?_ | (refine zM ?_; intro _ _) | refine zX ?_ | (refine zC ?_; intro _ _ _ _) | (refine zS ?_; intro _ _) | (apply Ws <;> intro hg))
      refine WR.call (by first | exact gN | exact gS rfl) rfl rfl (Cost_fs hH11 hok hS1 ha' hb') ?_
      rintro _ H12 ⟨n12, M12, hn12, hH12, rfl⟩
      replace hH12 := hH12.sub (List.sublist_append_right _ _)
      clear hH11
      repeat' (first | refine zP ?_ | refine zA ?_ | (refine zM ?_; intro _ _) | refine zX ?_ | (refine zC ?_; intro _ _ _ _) | (refine zS ?_; intro _ _) | (apply Ws <;> intro hg))
      refine WR.call (by first | exact gN | exact gS rfl) rfl rfl (Cost_fs hH12 hok hS1 ha' ha') ?_
      rintro _ H13 ⟨n13, M13, hn13, hH13, rfl⟩
      replace hH13 := hH13.sub (List.sublist_append_right _ _)
      clear hH12
      have mx1 : (n6, Ch.row 74 0 0 [w1, w2]) ∈ (n7, Ch.row 74 0 0 [w3, w4]) :: (n6, Ch.row 74 0 0 [w1, w2]) :: (Ma ++ (Mb ++ T)) := .tail _ (.head _)
      have my1 : (n7, Ch.row 74 0 0 [w3, w4]) ∈ (n7, Ch.row 74 0 0 [w3, w4]) :: (n6, Ch.row 74 0 0 [w1, w2]) :: (Ma ++ (Mb ++ T)) := .head _
      repeat' (first | refine zP ?_ | refine zA ?_ | (refine zM ?_; intro _ _) | refine zX ?_ | (refine zC ?_; intro _ _ _ _) | (refine zS ?_; intro _ _) | refine zO ?_ | (apply Ws <;> intro hg))
      have hLead : ∀ {Ma Mb : HL} {n : Nat} {H : Heap}, hasH ((n7, Ch.row 74 0 0 [w3, w4]) :: (n6, Ch.row 74 0 0 [w1, w2]) :: (Ma ++ (Mb ++ T))) n H → FS C 50 [.agg [w1, w2].toArray, .agg [w3, w4].toArray] H (fun e H' => ∃ n', n ≤ n' ∧ hasH ((n7, Ch.row 74 0 0 [w3, w4]) :: (n6, Ch.row 74 0 0 [w1, w2]) :: (Ma ++ (Mb ++ T))) n' H' ∧ e = .int .i64 (DP (matS S) a b)) := fun h => lead_fs h hok ha' hb' (hpa.mono mem) (hta.mono mem) hpb.one_ (htb.mono mem)
      refine WR.call (by first | exact gN | exact gS rfl) rfl rfl (hLead hH13) ?_
      rintro _ H14 ⟨n14, hn14, hH14, rfl⟩
      clear hH13
      have hsub : cs S a a - cs S a b = DP (matS S) a b := by omega
      apply use_tail (C := C) (ro := none) (fn := 9) (nt := pf9.nt) (α := SV) (P := fun s H' => n5 ≤ s.n ∧ Own 76 2 s.a (cellsF prV (prs (gD (DP (matS S))) S.length a (b + 1))) s.Ma ∧ Own 76 2 s.b (cellsF prV (prs (fun a b => decide (0 < DP (matS S) a b)) S.length a (b + 1))) s.Mb ∧ hasH ((n7, Ch.row 74 0 0 [w3, w4]) :: (n6, Ch.row 74 0 0 [w1, w2]) :: (s.Ma ++ (s.Mb ++ T))) s.n H')
        (E := fun s => [(1, .int .u8 (oa : Int)), (2, .int .u8 (ob : Int)), (7, .int .i64 (g : Int)), (8, .pointer (some ⟨n4, 0, some 0⟩)), (9, s.a), (10, s.b), (11, .int .i64 (a : Int)), (12, .pointer (some ⟨n6, 0, some 0⟩)), (14, .pointer (some ⟨n7, 0, some 0⟩)), (19, .bool false), (20, .bool false), (38, v), (39, .int .i64 (S.length : Int)), (40, .int .i64 (a : Int)), (45, v), (46, .int .i64 (S.length : Int)), (47, .int .i64 (b : Int)), (113, .int .i64 (g : Int)), (114, .int .i64 0)])
      case main =>
        intro htail
        by_cases hab : a = b
        · have hab' : ¬ (a : Int) ≠ (b : Int) := by omega
          rw [if_neg (fun k => k.1 hab), List.append_nil] at hsa hsb
          repeat' (first | refine zP ?_ | refine zA ?_ | (refine zM ?_; intro _ _) | refine zX ?_ | (refine zC ?_; intro _ _ _ _) | (refine zS ?_; intro _ _) | refine zO ?_ | (apply Ws <;> intro hg))
          repeat' (first | refine zP ?_ | refine zA ?_ | (refine zM ?_; intro _ _) | refine zX ?_ | (refine zC ?_; intro _ _ _ _) | (refine zS ?_; intro _ _) | (apply Ws <;> intro hg))
          exact (htail ⟨0, va, vb, Ma, Mb, n14⟩ _ ⟨by simp only; omega, by simp only; rw [hsa]; exact hOa, by simp only; rw [hsb]; exact hOb, hH14⟩).weaken (by repeat' (first | exact .nil | refine .cons rfl ?_))
        · have hab' : (a : Int) ≠ (b : Int) := by omega
          repeat' (first | refine zP ?_ | refine zA ?_ | (refine zM ?_; intro _ _) | refine zX ?_ | (refine zC ?_; intro _ _ _ _) | (refine zS ?_; intro _ _) | refine zO ?_ | (apply Ws <;> intro hg))
          refine WR.call (by first | exact gN | exact gS rfl) rfl rfl (hLead hH14) ?_
          rintro _ H15 ⟨n15, hn15, hH15, rfl⟩
          clear hH14
          by_cases hD : 0 ≤ DP (matS S) a b
          · have hD' : DP (matS S) a b ≥ 0 := hD
            rw [if_pos ⟨hab, gD_iff.2 hD⟩] at hsa
            repeat' (first | refine zP ?_ | refine zA ?_ | (refine zM ?_; intro _ _) | refine zX ?_ | (refine zC ?_; intro _ _ _ _) | (refine zS ?_; intro _ _) | refine zO ?_ | (apply Ws <;> intro hg))
            refine WR.op (by first | exact gN | exact gS rfl) rfl (OpV.bldA (cs := [Value.int .i64 (a : Nat), .int .i64 (b : Nat)].toArray) rfl rfl) ?_
            refine WR.append1F [(n7, Ch.row 74 0 0 [w3, w4]), (n6, Ch.row 74 0 0 [w1, w2])] Ma (Mb ++ T) rfl rfl rfl rfl hOa hH15 (new := [.int .i64 (a : Nat), .int .i64 (b : Nat)]) (by rfl) rfl rfl (by decide) (by decide) (by rw [cellsF_len prV_len]; simp; omega) fun v3 M3 n16 H16 hO3 hH16 hn16 => ?_
            rw [pr_snoc] at hO3
            replace hH16 : hasH ((n7, Ch.row 74 0 0 [w3, w4]) :: (n6, Ch.row 74 0 0 [w1, w2]) :: (M3 ++ (Mb ++ T))) n16 H16 := hH16
            have mx3 : (n6, Ch.row 74 0 0 [w1, w2]) ∈ (n7, Ch.row 74 0 0 [w3, w4]) :: (n6, Ch.row 74 0 0 [w1, w2]) :: (M3 ++ (Mb ++ T)) := .tail _ (.head _)
            have my3 : (n7, Ch.row 74 0 0 [w3, w4]) ∈ (n7, Ch.row 74 0 0 [w3, w4]) :: (n6, Ch.row 74 0 0 [w1, w2]) :: (M3 ++ (Mb ++ T)) := .head _
            clear hH15
            repeat' (first | refine zP ?_ | refine zA ?_ | (refine zM ?_; intro _ _) | refine zX ?_ | (refine zC ?_; intro _ _ _ _) | (refine zS ?_; intro _ _) | refine zO ?_ | (apply Ws <;> intro hg))
            refine WR.call (by first | exact gN | exact gS rfl) rfl rfl (hLead (Ma := M3) (Mb := Mb) hH16) ?_
            rintro _ H17 ⟨n17, hn17, hH17, rfl⟩
            clear hH16
            by_cases hD2 : 0 < DP (matS S) a b
            · have hD2' : DP (matS S) a b > 0 := hD2
              rw [if_pos ⟨hab, decide_eq_true hD2⟩] at hsb
              repeat' (first | refine zP ?_ | refine zA ?_ | (refine zM ?_; intro _ _) | refine zX ?_ | (refine zC ?_; intro _ _ _ _) | (refine zS ?_; intro _ _) | refine zO ?_ | (apply Ws <;> intro hg))
              refine WR.op (by first | exact gN | exact gS rfl) rfl (OpV.bldA (cs := [Value.int .i64 (a : Nat), .int .i64 (b : Nat)].toArray) rfl rfl) ?_
              refine WR.append1F ((n7, Ch.row 74 0 0 [w3, w4]) :: (n6, Ch.row 74 0 0 [w1, w2]) :: M3) Mb T rfl rfl rfl rfl hOb hH17 (new := [.int .i64 (a : Nat), .int .i64 (b : Nat)]) (by rfl) rfl rfl (by decide) (by decide) (by rw [cellsF_len prV_len]; simp; omega) fun v4 M4 n18 H18 hO4 hH18 hn18 => ?_
              rw [pr_snoc] at hO4
              replace hH18 : hasH ((n7, Ch.row 74 0 0 [w3, w4]) :: (n6, Ch.row 74 0 0 [w1, w2]) :: (M3 ++ (M4 ++ T))) n18 H18 := hH18
              clear hH17
              repeat' (first | refine zP ?_ | refine zA ?_ | (refine zM ?_; intro _ _) | refine zX ?_ | (refine zC ?_; intro _ _ _ _) | (refine zS ?_; intro _ _) | (apply Ws <;> intro hg))
              exact (htail ⟨0, v3, v4, M3, M4, n18⟩ _ ⟨by simp only; omega, by simp only; rw [hsa]; exact hO3, by simp only; rw [hsb]; exact hO4, hH18⟩).weaken (by repeat' (first | exact .nil | refine .cons rfl ?_))
            · have hD2' : ¬ DP (matS S) a b > 0 := hD2
              rw [if_neg (fun k => hD2 (of_decide_eq_true k.2)), List.append_nil] at hsb
              repeat' (first | refine zP ?_ | refine zA ?_ | (refine zM ?_; intro _ _) | refine zX ?_ | (refine zC ?_; intro _ _ _ _) | (refine zS ?_; intro _ _) | refine zO ?_ | (apply Ws <;> intro hg))
              repeat' (first | refine zP ?_ | refine zA ?_ | (refine zM ?_; intro _ _) | refine zX ?_ | (refine zC ?_; intro _ _ _ _) | (refine zS ?_; intro _ _) | (apply Ws <;> intro hg))
              exact (htail ⟨0, v3, vb, M3, Mb, n17⟩ _ ⟨by simp only; omega, by simp only; rw [hsa]; exact hO3, by simp only; rw [hsb]; exact hOb, hH17⟩).weaken (by repeat' (first | exact .nil | refine .cons rfl ?_))
          · have hD' : ¬ DP (matS S) a b ≥ 0 := hD
            have hD2' : ¬ DP (matS S) a b > 0 := by omega
            rw [if_neg (fun k => hD (gD_iff.1 k.2)), List.append_nil] at hsa
            rw [if_neg (fun k => hD2' (of_decide_eq_true k.2)), List.append_nil] at hsb
            repeat' (first | refine zP ?_ | refine zA ?_ | (refine zM ?_; intro _ _) | refine zX ?_ | (refine zC ?_; intro _ _ _ _) | (refine zS ?_; intro _ _) | refine zO ?_ | (apply Ws <;> intro hg))
            refine WR.call (by first | exact gN | exact gS rfl) rfl rfl (hLead hH15) ?_
            rintro _ H17 ⟨n17, hn17, hH17, rfl⟩
            clear hH15
            repeat' (first | refine zP ?_ | refine zA ?_ | (refine zM ?_; intro _ _) | refine zX ?_ | (refine zC ?_; intro _ _ _ _) | (refine zS ?_; intro _ _) | refine zO ?_ | (apply Ws <;> intro hg))
            repeat' (first | refine zP ?_ | refine zA ?_ | (refine zM ?_; intro _ _) | refine zX ?_ | (refine zC ?_; intro _ _ _ _) | (refine zS ?_; intro _ _) | (apply Ws <;> intro hg))
            exact (htail ⟨0, va, vb, Ma, Mb, n17⟩ _ ⟨by simp only; omega, by simp only; rw [hsa]; exact hOa, by simp only; rw [hsb]; exact hOb, hH17⟩).weaken (by repeat' (first | exact .nil | refine .cons rfl ?_))
      case tail =>
        clear mx1 my1 mS1 hS1 hH14 hOa hOb
        rintro ⟨_, va, vb, Ma, Mb, n14⟩ H14 ⟨hn14, hOa, hOb, hH14⟩
        simp only at hn14 hOa hOb hH14
        dsimp only
        refine WC.loopX [(1, _), (2, _), (7, .int .i64 (g : Int)), (8, .pointer (some ⟨n4, 0, some 0⟩)), (9, va), (10, vb), (11, .int .i64 (a : Int)), (12, .pointer (some ⟨n6, 0, some 0⟩)), (14, .pointer (some ⟨n7, 0, some 0⟩)), (38, v), (39, .int .i64 (S.length : Int)), (40, .int .i64 (a : Int)), (45, v), (46, .int .i64 (S.length : Int)), (47, .int .i64 (b : Int)), (113, .int .i64 (g : Int))] (fun k : Nat => [(19, .bool (anyGt (S.getD a noSal).2 (S.getD b noSal).2 k)), (20, .bool (anyGt (S.getD b noSal).2 (S.getD a noSal).2 k)), (114, .int .i64 (k : Int))]) [] (fun k H' => H' = H14 ∧ k ≤ g) (fun k => g - k) 0 (by repeat' (first | exact .nil | refine .cons rfl ?_)) rfl ⟨rfl, Nat.zero_le _⟩ ?_
        rintro k HK ⟨rfl, hk⟩
        have hsx := anyGt_succ (S.getD a noSal).2 (S.getD b noSal).2 k
        have hsy := anyGt_succ (S.getD b noSal).2 (S.getD a noSal).2 k
        have mx2 : (n6, Ch.row 74 0 0 [w1, w2]) ∈ (n7, Ch.row 74 0 0 [w3, w4]) :: (n6, Ch.row 74 0 0 [w1, w2]) :: (Ma ++ (Mb ++ T)) := .tail _ (.head _)
        have my2 : (n7, Ch.row 74 0 0 [w3, w4]) ∈ (n7, Ch.row 74 0 0 [w3, w4]) :: (n6, Ch.row 74 0 0 [w1, w2]) :: (Ma ++ (Mb ++ T)) := .head _
        have hta2 := hta.mono (mem (Ma := Ma) (Mb := Mb))
        have htb2 := htb.mono (mem (Ma := Ma) (Mb := Mb))
        have hlx := hok.lt a ha'
        have hly := hok.lt b hb'
        dsimp only [List.cons_append, List.nil_append]
        repeat' (first | refine zP ?_ | refine zA ?_ | (refine zM ?_; intro _ _) | refine zX ?_ | (refine zC ?_; intro _ _ _ _) | (refine zS ?_; intro _ _) | (apply Ws <;> intro hg))
        refine WC.condP rfl (fun hltk => ?_) (fun hltk => ?_)
        · have hk' : k < g := by omega
          cases hc1 : anyGt (S.getD a noSal).2 (S.getD b noSal).2 k <;> cases hc2 : anyGt (S.getD b noSal).2 (S.getD a noSal).2 k <;> rw [hc1] at hsx <;> rw [hc2] at hsy <;> simp only [Bool.true_or, Bool.false_or] at hsx hsy
          all_goals
            repeat' (first | refine zP ?_ | refine zA ?_ | (refine zM ?_; intro _ _) | refine zX ?_ | (refine zC ?_; intro _ _ _ _) | (refine zS ?_; intro _ _) | (apply Ws <;> intro hg))
            exact Ends.loop (k + 1) (by omega) (by simp only [hsx, hsy]; exact (by repeat' (first | exact .nil | refine .cons rfl ?_))) rfl ⟨rfl, by omega⟩
        · have hkg : k = g := by omega
          subst hkg
          cases hc1 : anyGt (S.getD a noSal).2 (S.getD b noSal).2 k with
          | false =>
            repeat' (first | refine zP ?_ | refine zA ?_ | (refine zM ?_; intro _ _) | refine zX ?_ | (refine zC ?_; intro _ _ _ _) | (refine zS ?_; intro _ _) | (apply Ws <;> intro hg))
            exact Ends.loop ⟨b + 1, va, vb, Ma, Mb, n14⟩ (by simp only; omega) (by repeat' (first | exact .nil | refine .cons rfl ?_)) rfl ⟨by simp only; omega, hn14, hOa, hOb, hH14.tail⟩
          | true =>
            cases hc2 : anyGt (S.getD b noSal).2 (S.getD a noSal).2 k with
            | true =>
              repeat' (first | refine zP ?_ | refine zA ?_ | (refine zM ?_; intro _ _) | refine zX ?_ | (refine zC ?_; intro _ _ _ _) | (refine zS ?_; intro _ _) | (apply Ws <;> intro hg))
              exact Ends.loop ⟨b + 1, va, vb, Ma, Mb, n14⟩ (by simp only; omega) (by repeat' (first | exact .nil | refine .cons rfl ?_)) rfl ⟨by simp only; omega, hn14, hOa, hOb, hH14.tail⟩
            | false =>
              have hdom := hok.dom ha' hb' hc1 hc2
              repeat' (first | refine zP ?_ | refine zA ?_ | (refine zM ?_; intro _ _) | refine zX ?_ | (refine zC ?_; intro _ _ _ _) | (refine zS ?_; intro _ _) | (apply Ws <;> intro hg))
              refine WR.call (by first | exact gN | exact gS rfl) rfl rfl (hLead (Ma := Ma) (Mb := Mb) hH14) ?_
              rintro _ HL ⟨nL, hnL, hHL, rfl⟩
              have hdom2 : ¬ DP (matS S) a b ≤ 0 := by omega
              repeat' (first | refine zP ?_ | refine zA ?_ | (refine zM ?_; intro _ _) | refine zX ?_ | (refine zC ?_; intro _ _ _ _) | (refine zS ?_; intro _ _) | refine zO ?_ | (apply Ws <;> intro hg))
              exact Ends.loop ⟨b + 1, va, vb, Ma, Mb, nL⟩ (by simp only; omega) (by repeat' (first | exact .nil | refine .cons rfl ?_)) rfl ⟨by simp only; omega, by simp only; omega, hOa, hOb, hHL.tail⟩
    · have hbl : b = S.length := by omega
      subst hbl
      repeat' (first | refine zP ?_ | refine zA ?_ | (refine zM ?_; intro _ _) | refine zX ?_ | (refine zC ?_; intro _ _ _ _) | (refine zS ?_; intro _ _) | (apply Ws <;> intro hg))
      refine Ends.loop ⟨a + 1, va, vb, Ma, Mb, n7⟩ (by simp only; omega) (by repeat' (first | exact .nil | refine .cons rfl ?_)) rfl ⟨by simp only; omega, hn7, ?_, ?_, hH9.tail⟩
      · simp only
        rw [prs_next]; exact hOa
      · simp only
        rw [prs_next]; exact hOb
end
end Go.Proofs.Yteopjpfhhekkoaa.Tt
