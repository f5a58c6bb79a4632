import Derived.Test.YtbnppcgmbiajnaaP4
import Derived.Test.YtbnppcgmbiajnaaSymE
import Derived.Test.YtbnppcgmbiajnaaE9
namespace Go.Proofs.Ytbnppcgmbiajnaa.Eb
open Go Go.Abs Go.Low
set_option linter.unusedVariables false
set_option linter.unusedSimpArgs false
set_option maxRecDepth 100000 in
theorem mul64_one (H : Heap) : ∀ m : Nat, m < 37 → ∃ k, runW C k (.call 85 [.int .u64 1, .int .u64 (m : Int)] H) = some (.val (.tuple #[.int .u64 0, .int .u64 (m : Int)]) H)
  | 0, _ => ⟨100, by kernel_rfl⟩
  | 1, _ => ⟨100, by kernel_rfl⟩
  | 2, _ => ⟨100, by kernel_rfl⟩
  | 3, _ => ⟨100, by kernel_rfl⟩
  | 4, _ => ⟨100, by kernel_rfl⟩
  | 5, _ => ⟨100, by kernel_rfl⟩
  | 6, _ => ⟨100, by kernel_rfl⟩
  | 7, _ => ⟨100, by kernel_rfl⟩
  | 8, _ => ⟨100, by kernel_rfl⟩
  | 9, _ => ⟨100, by kernel_rfl⟩
  | 10, _ => ⟨100, by kernel_rfl⟩
  | 11, _ => ⟨100, by kernel_rfl⟩
  | 12, _ => ⟨100, by kernel_rfl⟩
  | 13, _ => ⟨100, by kernel_rfl⟩
  | 14, _ => ⟨100, by kernel_rfl⟩
  | 15, _ => ⟨100, by kernel_rfl⟩
  | 16, _ => ⟨100, by kernel_rfl⟩
  | 17, _ => ⟨100, by kernel_rfl⟩
  | 18, _ => ⟨100, by kernel_rfl⟩
  | 19, _ => ⟨100, by kernel_rfl⟩
  | 20, _ => ⟨100, by kernel_rfl⟩
  | 21, _ => ⟨100, by kernel_rfl⟩
  | 22, _ => ⟨100, by kernel_rfl⟩
  | 23, _ => ⟨100, by kernel_rfl⟩
  | 24, _ => ⟨100, by kernel_rfl⟩
  | 25, _ => ⟨100, by kernel_rfl⟩
  | 26, _ => ⟨100, by kernel_rfl⟩
  | 27, _ => ⟨100, by kernel_rfl⟩
  | 28, _ => ⟨100, by kernel_rfl⟩
  | 29, _ => ⟨100, by kernel_rfl⟩
  | 30, _ => ⟨100, by kernel_rfl⟩
  | 31, _ => ⟨100, by kernel_rfl⟩
  | 32, _ => ⟨100, by kernel_rfl⟩
  | 33, _ => ⟨100, by kernel_rfl⟩
  | 34, _ => ⟨100, by kernel_rfl⟩
  | 35, _ => ⟨100, by kernel_rfl⟩
  | 36, _ => ⟨100, by kernel_rfl⟩
  | m + 37, h => absurd h (by omega)

theorem Mul_fs {H : Heap} {m : Nat} (h : m < 37) : FS C 85 [.int .u64 1, .int .u64 (m : Int)] H (fun v H' => v = .tuple #[.int .u64 0, .int .u64 (m : Int)] ∧ H' = H) := by
  obtain ⟨k, hk⟩ := mul64_one H m h
  exact ⟨_, _, ⟨k, hk⟩, rfl, rfl⟩

attribute [local irreducible] gOK WS WC WR WD Ends FS YS OpV seqK blockK loopK midK retK rdK asgK rangeEnd sat Cell

theorem u109 : C.c.P.underlying 109 = some (.int .u64) := by kernel_rfl

theorem splice_get {cs l : List Int} {i : Nat} (h : i + l.length ≤ cs.length) (j : Nat) : (cs.take i ++ l ++ cs.drop (i + l.length)).getD j 0 = if j < i then cs.getD j 0 else if j < i + l.length then l.getD (j - i) 0 else cs.getD j 0 := by
  simp only [List.getD_eq_getElem?_getD]
  by_cases h1 : j < i
  · rw [if_pos h1, List.append_assoc, List.getElem?_append_left (by simp; omega), List.getElem?_take_of_lt h1]
  · rw [if_neg h1]
    by_cases h2 : j < i + l.length
    · rw [if_pos h2, List.getElem?_append_left (by simp; omega), List.getElem?_append_right (by simp; omega)]
      congr 2; simp; omega
    · rw [if_neg h2, List.getElem?_append_right (by simp; omega), List.getElem?_drop]
      congr 2; simp; omega

theorem splice_ints {cs l : List Int} {i : Nat} : splice (ints cs) i (ints l) = ints (cs.take i ++ l ++ cs.drop (i + l.length)) := by
  simp [splice, ints, List.map_take, List.map_drop]

theorem Repeat_fs {M : HL} {n : Nat} {H : Heap} (hH : hasH M n H) {v : Value} {a : Int} (hS : Sl M 1 v (ints [a])) {m : Nat} (hm : 1 ≤ m ∧ m ≤ 36) :
    FS C 44 [v, .int .i64 (m : Int)] H (fun e H' => ∃ b n' ys, e = .slice (some ⟨b, 0, some 0⟩) m (2 * m + 1) ∧ n ≤ n' ∧ hasH ((b, .row 3 0 0 (ints ys)) :: M) n' H' ∧ ys.length = m ∧ ∀ j, j < m → ys.getD j 0 = a) := by
  have h1 := hS.one_
  refine FS.intro (pf := pf44) rfl rfl rfl ?_
  repeat' (first | apply Wa | apply Wb | apply Wc | apply Wd | apply We | apply Wf | refine Wh (by exact rfl) ?_ | apply Wj | apply Wk | apply Wl | apply Wm | apply Wn | apply Wo | apply Wp | refine Wq (by exact rfl) ?_ | apply Wr | apply Wt | apply Wu | apply Wv | refine Wx rfl ?_ | refine Wy rfl ?_ | (apply zw; first | refine o1 rfl ?_ | (apply zf; first | refine o2 rfl ?_ | refine o3 rfl ?_) | (apply za; refine o4 rfl rfl ?_) | (apply ze; refine p4 rfl rfl ?_) | (apply zg; refine p5 rfl rfl ?_) | (apply zm; refine p6 rfl rfl ?_) | (apply zn; first | refine q1 rfl ?_ | refine q2 rfl ?_ | refine p1 rfl ?_ | refine p2 rfl ?_) | (apply zp; first | refine q3 rfl rfl ?_ | refine q4 rfl rfl ?_) | (apply zl; first | refine p3 rfl ?_ | refine o5 rfl rfl ?_) | (apply zk; refine o7 rfl ?_) | (apply zi; refine zi2 rfl rfl ?_; refine o8 rfl rfl rfl ?_) | (apply zj; refine zj2 rfl rfl ?_; refine o9 rfl rfl rfl ?_) | (apply zc; refine m1 ?_; intro _ _) | (apply zb; first | (refine m2 rfl rfl ?_; intro _ _) | (refine m3 rfl ?_; intro _ _)) | refine Wg rfl rfl ?_ | refine Wz rfl rfl ?_ | (apply Ws <;> intro hg)) | (apply zs; refine m4 rfl rfl ?_; intro _ _) | refine Wi rfl ?_ | refine Ww rfl ?_ | (apply Ws <;> intro hg))
  refine WR.op (by first | exact gN | exact gS rfl) rfl (OpV.lenSI rfl hS) ?_
  refine WR.op (by first | exact gN | exact gS rfl) rfl (OpV.conv u3 u109 rfl (c := (1 : Int)) rfl) ?_
  repeat' (first | apply Wa | apply Wb | apply Wc | apply Wd | apply We | apply Wf | refine Wh (by exact rfl) ?_ | apply Wj | apply Wk | apply Wl | apply Wm | apply Wn | apply Wo | apply Wp | refine Wq (by exact rfl) ?_ | apply Wr | apply Wt | apply Wu | apply Wv | refine Wx rfl ?_ | refine Wy rfl ?_ | (apply zw; first | refine o1 rfl ?_ | (apply zf; first | refine o2 rfl ?_ | refine o3 rfl ?_) | (apply za; refine o4 rfl rfl ?_) | (apply ze; refine p4 rfl rfl ?_) | (apply zg; refine p5 rfl rfl ?_) | (apply zm; refine p6 rfl rfl ?_) | (apply zn; first | refine q1 rfl ?_ | refine q2 rfl ?_ | refine p1 rfl ?_ | refine p2 rfl ?_) | (apply zp; first | refine q3 rfl rfl ?_ | refine q4 rfl rfl ?_) | (apply zl; first | refine p3 rfl ?_ | refine o5 rfl rfl ?_) | (apply zk; refine o7 rfl ?_) | (apply zi; refine zi2 rfl rfl ?_; refine o8 rfl rfl rfl ?_) | (apply zj; refine zj2 rfl rfl ?_; refine o9 rfl rfl rfl ?_) | (apply zc; refine m1 ?_; intro _ _) | (apply zb; first | (refine m2 rfl rfl ?_; intro _ _) | (refine m3 rfl ?_; intro _ _)) | refine Wg rfl rfl ?_ | refine Wz rfl rfl ?_ | (apply Ws <;> intro hg)) | (apply zs; refine m4 rfl rfl ?_; intro _ _) | refine Wi rfl ?_ | refine Ww rfl ?_ | (apply Ws <;> intro hg))
  refine WR.op (by first | exact gN | exact gS rfl) rfl (OpV.conv u3 u109 rfl (c := (m : Int)) (IntWalk.u64_in _ (by omega))) ?_
  refine WR.call (by first | exact gN | exact gS rfl) rfl rfl (Mul_fs (by omega)) ?_
  rintro _ _ ⟨rfl, rfl⟩
  repeat' (first | apply Wa | apply Wb | apply Wc | apply Wd | apply We | apply Wf | refine Wh (by exact rfl) ?_ | apply Wj | apply Wk | apply Wl | apply Wm | apply Wn | apply Wo | apply Wp | refine Wq (by exact rfl) ?_ | apply Wr | apply Wt | apply Wu | apply Wv | refine Wx rfl ?_ | refine Wy rfl ?_ | (apply zw; first | refine o1 rfl ?_ | (apply zf; first | refine o2 rfl ?_ | refine o3 rfl ?_) | (apply za; refine o4 rfl rfl ?_) | (apply ze; refine p4 rfl rfl ?_) | (apply zg; refine p5 rfl rfl ?_) | (apply zm; refine p6 rfl rfl ?_) | (apply zn; first | refine q1 rfl ?_ | refine q2 rfl ?_ | refine p1 rfl ?_ | refine p2 rfl ?_) | (apply zp; first | refine q3 rfl rfl ?_ | refine q4 rfl rfl ?_) | (apply zl; first | refine p3 rfl ?_ | refine o5 rfl rfl ?_) | (apply zk; refine o7 rfl ?_) | (apply zi; refine zi2 rfl rfl ?_; refine o8 rfl rfl rfl ?_) | (apply zj; refine zj2 rfl rfl ?_; refine o9 rfl rfl rfl ?_) | (apply zc; refine m1 ?_; intro _ _) | (apply zb; first | (refine m2 rfl rfl ?_; intro _ _) | (refine m3 rfl ?_; intro _ _)) | refine Wg rfl rfl ?_ | refine Wz rfl rfl ?_ | (apply Ws <;> intro hg)) | (apply zs; refine m4 rfl rfl ?_; intro _ _) | refine Wi rfl ?_ | refine Ww rfl ?_ | (apply Ws <;> intro hg))
  refine WC.condP rfl (fun hbig => ?_) (fun hbig => ?_)
  · omega
  repeat' (first | apply Wa | apply Wb | apply Wc | apply Wd | apply We | apply Wf | refine Wh (by exact rfl) ?_ | apply Wj | apply Wk | apply Wl | apply Wm | apply Wn | apply Wo | apply Wp | refine Wq (by exact rfl) ?_ | apply Wr | apply Wt | apply Wu | apply Wv | refine Wx rfl ?_ | refine Wy rfl ?_ | (apply zw; first | refine o1 rfl ?_ | (apply zf; first | refine o2 rfl ?_ | refine o3 rfl ?_) | (apply za; refine o4 rfl rfl ?_) | (apply ze; refine p4 rfl rfl ?_) | (apply zg; refine p5 rfl rfl ?_) | (apply zm; refine p6 rfl rfl ?_) | (apply zn; first | refine q1 rfl ?_ | refine q2 rfl ?_ | refine p1 rfl ?_ | refine p2 rfl ?_) | (apply zp; first | refine q3 rfl rfl ?_ | refine q4 rfl rfl ?_) | (apply zl; first | refine p3 rfl ?_ | refine o5 rfl rfl ?_) | (apply zk; refine o7 rfl ?_) | (apply zi; refine zi2 rfl rfl ?_; refine o8 rfl rfl rfl ?_) | (apply zj; refine zj2 rfl rfl ?_; refine o9 rfl rfl rfl ?_) | (apply zc; refine m1 ?_; intro _ _) | (apply zb; first | (refine m2 rfl rfl ?_; intro _ _) | (refine m3 rfl ?_; intro _ _)) | refine Wg rfl rfl ?_ | refine Wz rfl rfl ?_ | (apply Ws <;> intro hg)) | (apply zs; refine m4 rfl rfl ?_; intro _ _) | refine Wi rfl ?_ | refine Ww rfl ?_ | (apply Ws <;> intro hg))
  refine WR.op (by first | exact gN | exact gS rfl) rfl (OpV.conv u109 u3 rfl (c := (m : Int)) (IntWalk.i64_in _ (by omega))) ?_
  refine WR.mkS (by first | exact gN | exact gS rfl) rfl hH rfl rfl (by omega) rfl fun H2 hH2 => ?_
  replace hH2 : hasH ((n, .row 3 0 0 (ints (List.replicate m 0))) :: M) (n + 1) H2 := by rw [ints, List.map_replicate]; exact hH2
  repeat' (first | apply Wa | apply Wb | apply Wc | apply Wd | apply We | apply Wf | refine Wh (by exact rfl) ?_ | apply Wj | apply Wk | apply Wl | apply Wm | apply Wn | apply Wo | apply Wp | refine Wq (by exact rfl) ?_ | apply Wr | apply Wt | apply Wu | apply Wv | refine Wx rfl ?_ | refine Wy rfl ?_ | (apply zw; first | refine o1 rfl ?_ | (apply zf; first | refine o2 rfl ?_ | refine o3 rfl ?_) | (apply za; refine o4 rfl rfl ?_) | (apply ze; refine p4 rfl rfl ?_) | (apply zg; refine p5 rfl rfl ?_) | (apply zm; refine p6 rfl rfl ?_) | (apply zn; first | refine q1 rfl ?_ | refine q2 rfl ?_ | refine p1 rfl ?_ | refine p2 rfl ?_) | (apply zp; first | refine q3 rfl rfl ?_ | refine q4 rfl rfl ?_) | (apply zl; first | refine p3 rfl ?_ | refine o5 rfl rfl ?_) | (apply zk; refine o7 rfl ?_) | (apply zi; refine zi2 rfl rfl ?_; refine o8 rfl rfl rfl ?_) | (apply zj; refine zj2 rfl rfl ?_; refine o9 rfl rfl rfl ?_) | (apply zc; refine m1 ?_; intro _ _) | (apply zb; first | (refine m2 rfl rfl ?_; intro _ _) | (refine m3 rfl ?_; intro _ _)) | refine Wg rfl rfl ?_ | refine Wz rfl rfl ?_ | (apply Ws <;> intro hg)) | (apply zs; refine m4 rfl rfl ?_; intro _ _) | refine Wi rfl ?_ | refine Ww rfl ?_ | (apply Ws <;> intro hg))
  refine WR.copyMin (by first | exact gN | exact gS rfl) rfl rfl rfl (hS.cons (p := (n, .row 3 0 0 (ints (List.replicate m 0))))) hH2 .here (by simp [ints, one]) (Nat.le_refl _) (m := 1) (Nat.min_eq_left (by simpa using hm.1)) (Nat.le_refl _) (by simp; omega) rfl fun H3 hH3 => ?_
  rw [show splice (ints (List.replicate m 0)) (0 - 0) ((ints [a]).take 1) = ints ((List.replicate m 0).take 0 ++ [a] ++ (List.replicate m 0).drop (0 + [a].length)) from splice_ints (l := [a]) (i := 0)] at hH3
  have hl0 : ((List.replicate m (0 : Int)).take 0 ++ [a] ++ (List.replicate m 0).drop (0 + [a].length)).length = m := by simp; omega
  have ha0 : ∀ j, j < 1 → ((List.replicate m (0 : Int)).take 0 ++ [a] ++ (List.replicate m 0).drop (0 + [a].length)).getD j 0 = a := fun j hj => by
    have : j = 0 := by omega
    subst this; rfl
  generalize (List.replicate m (0 : Int)).take 0 ++ [a] ++ (List.replicate m 0).drop (0 + [a].length) = ys0 at hH3 hl0 ha0
  repeat' (first | apply Wa | apply Wb | apply Wc | apply Wd | apply We | apply Wf | refine Wh (by exact rfl) ?_ | apply Wj | apply Wk | apply Wl | apply Wm | apply Wn | apply Wo | apply Wp | refine Wq (by exact rfl) ?_ | apply Wr | apply Wt | apply Wu | apply Wv | refine Wx rfl ?_ | refine Wy rfl ?_ | (apply zw; first | refine o1 rfl ?_ | (apply zf; first | refine o2 rfl ?_ | refine o3 rfl ?_) | (apply za; refine o4 rfl rfl ?_) | (apply ze; refine p4 rfl rfl ?_) | (apply zg; refine p5 rfl rfl ?_) | (apply zm; refine p6 rfl rfl ?_) | (apply zn; first | refine q1 rfl ?_ | refine q2 rfl ?_ | refine p1 rfl ?_ | refine p2 rfl ?_) | (apply zp; first | refine q3 rfl rfl ?_ | refine q4 rfl rfl ?_) | (apply zl; first | refine p3 rfl ?_ | refine o5 rfl rfl ?_) | (apply zk; refine o7 rfl ?_) | (apply zi; refine zi2 rfl rfl ?_; refine o8 rfl rfl rfl ?_) | (apply zj; refine zj2 rfl rfl ?_; refine o9 rfl rfl rfl ?_) | (apply zc; refine m1 ?_; intro _ _) | (apply zb; first | (refine m2 rfl rfl ?_; intro _ _) | (refine m3 rfl ?_; intro _ _)) | refine Wg rfl rfl ?_ | refine Wz rfl rfl ?_ | (apply Ws <;> intro hg)) | (apply zs; refine m4 rfl rfl ?_; intro _ _) | refine Wi rfl ?_ | refine Ww rfl ?_ | (apply Ws <;> intro hg))
  refine WC.loop (fun s : Nat × List Int => [(7, .slice (some ⟨n, 0, some 0⟩) m (2 * m + 1)), (8, .int .i64 (s.1 : Int))]) (fun _ => [])
    (fun s H => 1 ≤ s.1 ∧ s.1 ≤ m ∧ s.2.length = m ∧ (∀ j, j < s.1 → s.2.getD j 0 = a) ∧ hasH ((n, .row 3 0 0 (ints s.2)) :: M) (n + 1) H)
    (fun s => m - s.1) (1, ys0) (by repeat' (first | exact .nil | refine .cons rfl ?_)) rfl ⟨Nat.le_refl _, hm.1, hl0, ha0, hH3⟩ ?_
  clear hH3 hH2 ha0 hl0
  rintro ⟨k, ys⟩ H4 ⟨hk1, hk, hl, ha, hH4⟩
  simp only at hk1 hk hl ha hH4
  dsimp only
  repeat' (first | apply Wa | apply Wb | apply Wc | apply Wd | apply We | apply Wf | refine Wh (by exact rfl) ?_ | apply Wj | apply Wk | apply Wl | apply Wm | apply Wn | apply Wo | apply Wp | refine Wq (by exact rfl) ?_ | apply Wr | apply Wt | apply Wu | apply Wv | refine Wx rfl ?_ | refine Wy rfl ?_ | (apply zw; first | refine o1 rfl ?_ | (apply zf; first | refine o2 rfl ?_ | refine o3 rfl ?_) | (apply za; refine o4 rfl rfl ?_) | (apply ze; refine p4 rfl rfl ?_) | (apply zg; refine p5 rfl rfl ?_) | (apply zm; refine p6 rfl rfl ?_) | (apply zn; first | refine q1 rfl ?_ | refine q2 rfl ?_ | refine p1 rfl ?_ | refine p2 rfl ?_) | (apply zp; first | refine q3 rfl rfl ?_ | refine q4 rfl rfl ?_) | (apply zl; first | refine p3 rfl ?_ | refine o5 rfl rfl ?_) | (apply zk; refine o7 rfl ?_) | (apply zi; refine zi2 rfl rfl ?_; refine o8 rfl rfl rfl ?_) | (apply zj; refine zj2 rfl rfl ?_; refine o9 rfl rfl rfl ?_) | (apply zc; refine m1 ?_; intro _ _) | (apply zb; first | (refine m2 rfl rfl ?_; intro _ _) | (refine m3 rfl ?_; intro _ _)) | refine Wg rfl rfl ?_ | refine Wz rfl rfl ?_ | (apply Ws <;> intro hg)) | (apply zs; refine m4 rfl rfl ?_; intro _ _) | refine Wi rfl ?_ | refine Ww rfl ?_ | (apply Ws <;> intro hg))
  refine WC.condP rfl (fun hlt => ?_) (fun hlt => ?_)
  · have hk' : k < m := by omega
    repeat' (first | apply Wa | apply Wb | apply Wc | apply Wd | apply We | apply Wf | refine Wh (by exact rfl) ?_ | apply Wj | apply Wk | apply Wl | apply Wm | apply Wn | apply Wo | apply Wp | refine Wq (by exact rfl) ?_ | apply Wr | apply Wt | apply Wu | apply Wv | refine Wx rfl ?_ | refine Wy rfl ?_ | (apply zw; first | refine o1 rfl ?_ | (apply zf; first | refine o2 rfl ?_ | refine o3 rfl ?_) | (apply za; refine o4 rfl rfl ?_) | (apply ze; refine p4 rfl rfl ?_) | (apply zg; refine p5 rfl rfl ?_) | (apply zm; refine p6 rfl rfl ?_) | (apply zn; first | refine q1 rfl ?_ | refine q2 rfl ?_ | refine p1 rfl ?_ | refine p2 rfl ?_) | (apply zp; first | refine q3 rfl rfl ?_ | refine q4 rfl rfl ?_) | (apply zl; first | refine p3 rfl ?_ | refine o5 rfl rfl ?_) | (apply zk; refine o7 rfl ?_) | (apply zi; refine zi2 rfl rfl ?_; refine o8 rfl rfl rfl ?_) | (apply zj; refine zj2 rfl rfl ?_; refine o9 rfl rfl rfl ?_) | (apply zc; refine m1 ?_; intro _ _) | (apply zb; first | (refine m2 rfl rfl ?_; intro _ _) | (refine m3 rfl ?_; intro _ _)) | refine Wg rfl rfl ?_ | refine Wz rfl rfl ?_ | (apply Ws <;> intro hg)) | (apply zs; refine m4 rfl rfl ?_; intro _ _) | refine Wi rfl ?_ | refine Ww rfl ?_ | (apply Ws <;> intro hg))
    refine WR.op (by first | exact gN | exact gS rfl) rfl (OpV.slLoK rfl rfl (by omega) (Nat.le_refl _) hk') ?_
    repeat' (first | apply Wa | apply Wb | apply Wc | apply Wd | apply We | apply Wf | refine Wh (by exact rfl) ?_ | apply Wj | apply Wk | apply Wl | apply Wm | apply Wn | apply Wo | apply Wp | refine Wq (by exact rfl) ?_ | apply Wr | apply Wt | apply Wu | apply Wv | refine Wx rfl ?_ | refine Wy rfl ?_ | (apply zw; first | refine o1 rfl ?_ | (apply zf; first | refine o2 rfl ?_ | refine o3 rfl ?_) | (apply za; refine o4 rfl rfl ?_) | (apply ze; refine p4 rfl rfl ?_) | (apply zg; refine p5 rfl rfl ?_) | (apply zm; refine p6 rfl rfl ?_) | (apply zn; first | refine q1 rfl ?_ | refine q2 rfl ?_ | refine p1 rfl ?_ | refine p2 rfl ?_) | (apply zp; first | refine q3 rfl rfl ?_ | refine q4 rfl rfl ?_) | (apply zl; first | refine p3 rfl ?_ | refine o5 rfl rfl ?_) | (apply zk; refine o7 rfl ?_) | (apply zi; refine zi2 rfl rfl ?_; refine o8 rfl rfl rfl ?_) | (apply zj; refine zj2 rfl rfl ?_; refine o9 rfl rfl rfl ?_) | (apply zc; refine m1 ?_; intro _ _) | (apply zb; first | (refine m2 rfl rfl ?_; intro _ _) | (refine m3 rfl ?_; intro _ _)) | refine Wg rfl rfl ?_ | refine Wz rfl rfl ?_ | (apply Ws <;> intro hg)) | (apply zs; refine m4 rfl rfl ?_; intro _ _) | refine Wi rfl ?_ | refine Ww rfl ?_ | (apply Ws <;> intro hg))
    refine WR.op (by first | exact gN | exact gS rfl) rfl (OpV.slHiK rfl rfl (by omega) (by omega)) ?_
    have hSl : Sl ((n, .row 3 0 0 (ints ys)) :: M) 1 (.slice (some ⟨n, 0, some 0⟩) k (2 * m + 1)) (ints (ys.take k)) :=
      .row (lo := 0) (cs := ints ys) (.head _) (.row _ _ _ _) (Nat.zero_le _) (by simp; omega) (by simp [ints, List.map_take]) (by simp; omega) (.inr ⟨m, rfl, by omega⟩)
    obtain ⟨d, hd⟩ : ∃ d, min k (m - k) = d := ⟨_, rfl⟩
    refine WR.copyMin (by first | exact gN | exact gS rfl) rfl rfl rfl hSl hH4 .here (ints_one _) (Nat.zero_le _) (m := d) (by rw [show (ints (ys.take k)).length = k by simp; omega]; exact hd) (by omega) (by simp; omega) rfl fun H5 hH5 => ?_
    rw [show (ints (ys.take k)).take d = ints ((ys.take k).take d) by simp [ints, List.map_take], show splice (ints ys) (0 + k - 0) (ints ((ys.take k).take d)) = ints (ys.take (0 + k - 0) ++ (ys.take k).take d ++ ys.drop ((0 + k - 0) + ((ys.take k).take d).length)) from splice_ints] at hH5
    have htl : ((ys.take k).take d).length = d := by simp; omega
    have hget := fun j => splice_get (cs := ys) (l := (ys.take k).take d) (i := 0 + k - 0) (by omega) j
    have hnl : (ys.take (0 + k - 0) ++ (ys.take k).take d ++ ys.drop ((0 + k - 0) + ((ys.take k).take d).length)).length = m := by simp; omega
    generalize ys.take (0 + k - 0) ++ (ys.take k).take d ++ ys.drop ((0 + k - 0) + ((ys.take k).take d).length) = ys2 at hH5 hget hnl
    repeat' (first | apply Wa | apply Wb | apply Wc | apply Wd | apply We | apply Wf | refine Wh (by exact rfl) ?_ | apply Wj | apply Wk | apply Wl | apply Wm | apply Wn | apply Wo | apply Wp | refine Wq (by exact rfl) ?_ | apply Wr | apply Wt | apply Wu | apply Wv | refine Wx rfl ?_ | refine Wy rfl ?_ | (apply zw; first | refine o1 rfl ?_ | (apply zf; first | refine o2 rfl ?_ | refine o3 rfl ?_) | (apply za; refine o4 rfl rfl ?_) | (apply ze; refine p4 rfl rfl ?_) | (apply zg; refine p5 rfl rfl ?_) | (apply zm; refine p6 rfl rfl ?_) | (apply zn; first | refine q1 rfl ?_ | refine q2 rfl ?_ | refine p1 rfl ?_ | refine p2 rfl ?_) | (apply zp; first | refine q3 rfl rfl ?_ | refine q4 rfl rfl ?_) | (apply zl; first | refine p3 rfl ?_ | refine o5 rfl rfl ?_) | (apply zk; refine o7 rfl ?_) | (apply zi; refine zi2 rfl rfl ?_; refine o8 rfl rfl rfl ?_) | (apply zj; refine zj2 rfl rfl ?_; refine o9 rfl rfl rfl ?_) | (apply zc; refine m1 ?_; intro _ _) | (apply zb; first | (refine m2 rfl rfl ?_; intro _ _) | (refine m3 rfl ?_; intro _ _)) | refine Wg rfl rfl ?_ | refine Wz rfl rfl ?_ | (apply Ws <;> intro hg)) | (apply zs; refine m4 rfl rfl ?_; intro _ _) | refine Wi rfl ?_ | refine Ww rfl ?_ | (apply Ws <;> intro hg))
    refine Ends.loop (k + d, ys2) (by simp only; omega) (by repeat' (first | exact .nil | refine .cons rfl ?_)) rfl ⟨by simp only; omega, by simp only; omega, hnl, fun j hj => ?_, hH5⟩
    simp only at hj ⊢
    rw [hget, htl]
    split
    · exact ha j (by omega)
    · rw [if_pos (by omega), List.getD_eq_getElem?_getD, List.getElem?_take_of_lt (by omega), List.getElem?_take_of_lt (by omega), ← List.getD_eq_getElem?_getD]
      exact ha _ (by omega)
  have hkn : k = m := by omega
  subst hkn
  repeat' (first | apply Wa | apply Wb | apply Wc | apply Wd | apply We | apply Wf | refine Wh (by exact rfl) ?_ | apply Wj | apply Wk | apply Wl | apply Wm | apply Wn | apply Wo | apply Wp | refine Wq (by exact rfl) ?_ | apply Wr | apply Wt | apply Wu | apply Wv | refine Wx rfl ?_ | refine Wy rfl ?_ | (apply zw; first | refine o1 rfl ?_ | (apply zf; first | refine o2 rfl ?_ | refine o3 rfl ?_) | (apply za; refine o4 rfl rfl ?_) | (apply ze; refine p4 rfl rfl ?_) | (apply zg; refine p5 rfl rfl ?_) | (apply zm; refine p6 rfl rfl ?_) | (apply zn; first | refine q1 rfl ?_ | refine q2 rfl ?_ | refine p1 rfl ?_ | refine p2 rfl ?_) | (apply zp; first | refine q3 rfl rfl ?_ | refine q4 rfl rfl ?_) | (apply zl; first | refine p3 rfl ?_ | refine o5 rfl rfl ?_) | (apply zk; refine o7 rfl ?_) | (apply zi; refine zi2 rfl rfl ?_; refine o8 rfl rfl rfl ?_) | (apply zj; refine zj2 rfl rfl ?_; refine o9 rfl rfl rfl ?_) | (apply zc; refine m1 ?_; intro _ _) | (apply zb; first | (refine m2 rfl rfl ?_; intro _ _) | (refine m3 rfl ?_; intro _ _)) | refine Wg rfl rfl ?_ | refine Wz rfl rfl ?_ | (apply Ws <;> intro hg)) | (apply zs; refine m4 rfl rfl ?_; intro _ _) | refine Wi rfl ?_ | refine Ww rfl ?_ | (apply Ws <;> intro hg))
  exact Ends.ret1 rfl ⟨n, n + 1, ys, rfl, by omega, hH4, hl, ha⟩
end Go.Proofs.Ytbnppcgmbiajnaa.Eb
