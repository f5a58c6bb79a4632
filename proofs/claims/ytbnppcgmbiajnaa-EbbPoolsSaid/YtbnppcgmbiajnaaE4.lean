import Derived.Test.YtbnppcgmbiajnaaE3
namespace Go.Proofs.Ytbnppcgmbiajnaa.Eb
open Go Go.Abs Go.Low
set_option linter.unusedVariables false
set_option linter.unusedSimpArgs false
attribute [local irreducible] gOK WS WC WR WD Ends FS YS OpV seqK blockK loopK midK retK rdK asgK rangeEnd sat Cell

theorem neighbours_fs {M : HL} {n : Nat} {H : Heap} (hH : hasH M n H) {bg c r p : Nat} {hs : List Int} (hm : (bg, .row 99 0 0 (gcells c r hs)) ∈ M) (hc : 1 ≤ c ∧ c ≤ 6) (hcr : c ≤ r) (hp : p ≤ r) (hr : r ≤ 36) :
    FS C 89 [.pointer (some ⟨bg, 0, some 0⟩), .int .i64 (p : Int)] H (fun v H' => ∃ g va vb Mn n', v = .func (.func g) va.toArray vb.toArray ∧ n ≤ n' ∧ hasH (Mn ++ M) n' H' ∧
      Iter C g va vb (fun H => ∃ M' n, hasH M' n H ∧ (∀ q ∈ Mn, q ∈ M') ∧ (bg, .row 99 0 0 (gcells c r hs)) ∈ M') (nodes (nbrs c r p))) := by
  refine FS.intro (pf := pf89) rfl rfl rfl ?_
  repeat' (first | apply Wa | apply Wb | apply Wc | apply Wd | apply We | apply Wf | refine Wh (by exact rfl) ?_ | apply Wj | apply Wk | apply Wl | apply Wm | apply Wn | apply Wo | apply Wp | refine Wq (by exact rfl) ?_ | apply Wr | apply Wt | apply Wu | apply Wv | refine Wx rfl ?_ | refine Wy rfl ?_ | (apply zw; first | refine o1 rfl ?_ | (apply zf; first | refine o2 rfl ?_ | refine o3 rfl ?_) | (apply za; refine o4 rfl rfl ?_) | (apply ze; refine p4 rfl rfl ?_) | (apply zg; refine p5 rfl rfl ?_) | (apply zm; refine p6 rfl rfl ?_) | (apply zn; first | refine q1 rfl ?_ | refine q2 rfl ?_ | refine p1 rfl ?_ | refine p2 rfl ?_) | (apply zp; first | refine q3 rfl rfl ?_ | refine q4 rfl rfl ?_) | (apply zl; first | refine o5 rfl rfl ?_ | refine p3 rfl ?_) | (apply zk; refine o7 rfl ?_) | (apply zi; refine o8 rfl rfl rfl ?_) | (apply zj; refine o9 rfl rfl rfl ?_) | (apply zc; refine m1 ?_; intro _ _) | (apply zb; first | (refine m2 rfl rfl ?_; intro _ _) | (refine m3 rfl ?_; intro _ _)) | refine Wg rfl rfl ?_ | (apply Ws <;> intro hg)) | (apply zs; refine m4 rfl rfl ?_; intro _ _) | refine Wi rfl ?_ | (apply Ws <;> intro hg))
  refine WC.condP rfl (fun heq => ?_) (fun heq => ?_)
  · have hpr : p = r := by omega
    subst hpr
    repeat' (first | apply Wa | apply Wb | apply Wc | apply Wd | apply We | apply Wf | refine Wh (by exact rfl) ?_ | apply Wj | apply Wk | apply Wl | apply Wm | apply Wn | apply Wo | apply Wp | refine Wq (by exact rfl) ?_ | apply Wr | apply Wt | apply Wu | apply Wv | refine Wx rfl ?_ | refine Wy rfl ?_ | (apply zw; first | refine o1 rfl ?_ | (apply zf; first | refine o2 rfl ?_ | refine o3 rfl ?_) | (apply za; refine o4 rfl rfl ?_) | (apply ze; refine p4 rfl rfl ?_) | (apply zg; refine p5 rfl rfl ?_) | (apply zm; refine p6 rfl rfl ?_) | (apply zn; first | refine q1 rfl ?_ | refine q2 rfl ?_ | refine p1 rfl ?_ | refine p2 rfl ?_) | (apply zp; first | refine q3 rfl rfl ?_ | refine q4 rfl rfl ?_) | (apply zl; first | refine o5 rfl rfl ?_ | refine p3 rfl ?_) | (apply zk; refine o7 rfl ?_) | (apply zi; refine o8 rfl rfl rfl ?_) | (apply zj; refine o9 rfl rfl rfl ?_) | (apply zc; refine m1 ?_; intro _ _) | (apply zb; first | (refine m2 rfl rfl ?_; intro _ _) | (refine m3 rfl ?_; intro _ _)) | refine Wg rfl rfl ?_ | (apply Ws <;> intro hg)) | (apply zs; refine m4 rfl rfl ?_; intro _ _) | refine Wi rfl ?_ | (apply Ws <;> intro hg))
    refine Ends.ret1 rfl ⟨97, [.pointer (some ⟨bg, 0, some 0⟩)], [], [], n + 2, rfl, by omega, ?_, ?_⟩
    · exact hasH.tail (hasH.tail (by assumption))
    · rw [nbrs, if_pos rfl]
      exact (lastRow_it hcr hr).mono fun H ⟨M', n', h1, _, h2⟩ => ⟨M', n', h1, h2⟩
  · have hpr : p ≠ r := by omega
    repeat' (first | apply Wa | apply Wb | apply Wc | apply Wd | apply We | apply Wf | refine Wh (by exact rfl) ?_ | apply Wj | apply Wk | apply Wl | apply Wm | apply Wn | apply Wo | apply Wp | refine Wq (by exact rfl) ?_ | apply Wr | apply Wt | apply Wu | apply Wv | refine Wx rfl ?_ | refine Wy rfl ?_ | (apply zw; first | refine o1 rfl ?_ | (apply zf; first | refine o2 rfl ?_ | refine o3 rfl ?_) | (apply za; refine o4 rfl rfl ?_) | (apply ze; refine p4 rfl rfl ?_) | (apply zg; refine p5 rfl rfl ?_) | (apply zm; refine p6 rfl rfl ?_) | (apply zn; first | refine q1 rfl ?_ | refine q2 rfl ?_ | refine p1 rfl ?_ | refine p2 rfl ?_) | (apply zp; first | refine q3 rfl rfl ?_ | refine q4 rfl rfl ?_) | (apply zl; first | refine o5 rfl rfl ?_ | refine p3 rfl ?_) | (apply zk; refine o7 rfl ?_) | (apply zi; refine o8 rfl rfl rfl ?_) | (apply zj; refine o9 rfl rfl rfl ?_) | (apply zc; refine m1 ?_; intro _ _) | (apply zb; first | (refine m2 rfl rfl ?_; intro _ _) | (refine m3 rfl ?_; intro _ _)) | refine Wg rfl rfl ?_ | (apply Ws <;> intro hg)) | (apply zs; refine m4 rfl rfl ?_; intro _ _) | refine Wi rfl ?_ | (apply Ws <;> intro hg))
    refine Ends.ret1 rfl ⟨98, [], [.pointer (some ⟨n + 1, 0, some 0⟩), .pointer (some ⟨n, 0, some 0⟩)], [(n + 1, .row 3 0 0 [.int .i64 (p : Int)]), (n, .row 82 0 0 [.pointer (some ⟨bg, 0, some 0⟩)])], n + 2, rfl, by omega, by assumption, ?_⟩
    rw [nbrs, if_neg hpr]
    exact (place_it hc (by omega) hr).mono fun H ⟨M', n', h1, h2, h3⟩ => ⟨M', n', h1, h2 _ (by simp), h2 _ (by simp), h3⟩

end Go.Proofs.Ytbnppcgmbiajnaa.Eb
