import Derived.Test.YtbnppcgmbiajnaaE6
namespace Go.Proofs.Ytbnppcgmbiajnaa.Eb
open Go Go.Abs Go.Low
set_option linter.unusedVariables false
set_option linter.unusedSimpArgs false
attribute [local irreducible] gOK WS WC WR WD Ends FS YS OpV seqK blockK loopK midK retK rdK asgK rangeEnd sat Cell

abbrev padded (xs : List Int) : List Int := xs ++ List.replicate (37 - xs.length) 0

def levelE (r c : Int) (xs : List Int) (w : Int) : Int := if checkE r c xs ≠ 0 then checkE r c xs else if 0 ≤ w ∧ w ≤ 30 then 0 else 1

theorem check_ok {r c : Int} {xs : List Int} (h : checkE r c xs = 0) : 1 ≤ r ∧ r ≤ 6 ∧ 1 ≤ c ∧ c ≤ 6 ∧ (xs.length : Int) = r * c ∧ ∀ x ∈ xs, 0 ≤ x ∧ x ≤ 30 := by
  unfold checkE at h
  split at h
  · cases h
  · split at h
    · cases h
    · split at h
      · rename_i h1 h2 h3
        exact ⟨by omega, by omega, by omega, by omega, by omega, h3⟩
      · cases h

theorem padded_get {xs : List Int} (h : xs.length ≤ 37) (y : Nat) : (padded xs).getD y 0 = xs.getD y 0 := by
  rw [List.getD_eq_getElem?_getD, List.getD_eq_getElem?_getD]
  by_cases hy : y < xs.length
  · rw [List.getElem?_append_left hy]
  · rw [List.getElem?_append_right (by omega), List.getElem?_eq_none (Nat.le_of_not_lt hy), List.getElem?_replicate]
    split <;> rfl

theorem HS_of {r c : Int} {xs : List Int} (h : checkE r c xs = 0) : HS c.toNat xs.length (padded xs) ∧ c.toNat ≤ 6 ∧ xs.length ≤ 36 := by
  obtain ⟨h1, h2, h3, h4, h5, h6⟩ := check_ok h
  have hp := prod_le ⟨h1, h2⟩ ⟨h3, h4⟩
  have hrc : c ≤ r * c := by
    have := Int.mul_le_mul_of_nonneg_right (show (1 : Int) ≤ r by omega) (show 0 ≤ c by omega)
    omega
  refine ⟨⟨by omega, by omega, by omega, by simp; omega, fun y => ?_⟩, by omega, by omega⟩
  rw [padded_get (by omega), List.getD_eq_getElem?_getD]
  by_cases hy : y < xs.length
  · rw [List.getElem?_eq_getElem hy]; exact h6 _ (List.getElem_mem hy)
  · rw [List.getElem?_eq_none (Nat.le_of_not_lt hy)]; simp

theorem layAt_fs {M : HL} {n : Nat} {H : Heap} (hH : hasH M n H) {r c : Int} {v : Value} {xs : List Int} (hS : Sl M 1 v (ints xs)) (hx : xs.length ≤ 1000) (w : Int) :
    FS C 59 [.agg #[.int .i64 r, .int .i64 c, v], .int .i64 w] H (fun e H' => ∃ n', n ≤ n' ∧ (levelE r c xs w ≠ 0 ∧ e = .tuple #[.pointer none, .int .i64 (levelE r c xs w)] ∧ hasH M n' H' ∨
      levelE r c xs w = 0 ∧ ∃ b, e = .tuple #[.pointer (some ⟨b, 0, some 0⟩), .int .i64 0] ∧ hasH ((b, .row 99 0 0 (gcells c.toNat xs.length (padded xs))) :: M) n' H')) := by
  have h1 := hS.one_
  refine FS.intro (pf := pf59) rfl rfl rfl ?_
  repeat' (first | apply Wa | apply Wb | apply Wc | apply Wd | apply We | apply Wf | refine Wh (by exact rfl) ?_ | apply Wj | apply Wk | apply Wl | apply Wm | apply Wn | apply Wo | apply Wp | refine Wq (by exact rfl) ?_ | apply Wr | apply Wt | apply Wu | apply Wv | refine Wx rfl ?_ | refine Wy rfl ?_ | (apply zw; first | refine o1 rfl ?_ | (apply zf; first | refine o2 rfl ?_ | refine o3 rfl ?_) | (apply za; refine o4 rfl rfl ?_) | (apply ze; refine p4 rfl rfl ?_) | (apply zg; refine p5 rfl rfl ?_) | (apply zm; refine p6 rfl rfl ?_) | (apply zn; first | refine q1 rfl ?_ | refine q2 rfl ?_ | refine p1 rfl ?_ | refine p2 rfl ?_) | (apply zp; first | refine q3 rfl rfl ?_ | refine q4 rfl rfl ?_) | (apply zl; first | refine o5 rfl rfl ?_ | refine p3 rfl ?_) | (apply zk; refine o7 rfl ?_) | (apply zi; refine o8 rfl rfl rfl ?_) | (apply zj; refine o9 rfl rfl rfl ?_) | (apply zc; refine m1 ?_; intro _ _) | (apply zb; first | (refine m2 rfl rfl ?_; intro _ _) | (refine m3 rfl ?_; intro _ _)) | refine Wg rfl rfl ?_ | (apply Ws <;> intro hg)) | (apply zs; refine m4 rfl rfl ?_; intro _ _) | refine Wi rfl ?_ | (apply Ws <;> intro hg))
  refine WR.call (by first | exact gN | exact gS rfl) rfl rfl (lay_fs (by assumption) hS.cons hx) ?_
  rintro _ H2 ⟨n2, hn2, ⟨hne, rfl, hH2⟩ | ⟨he0, b, rfl, hH2⟩⟩
  · have hl : levelE r c xs w = checkE r c xs := by simp [levelE, hne]
    repeat' (first | apply Wa | apply Wb | apply Wc | apply Wd | apply We | apply Wf | refine Wh (by exact rfl) ?_ | apply Wj | apply Wk | apply Wl | apply Wm | apply Wn | apply Wo | apply Wp | refine Wq (by exact rfl) ?_ | apply Wr | apply Wt | apply Wu | apply Wv | refine Wx rfl ?_ | refine Wy rfl ?_ | (apply zw; first | refine o1 rfl ?_ | (apply zf; first | refine o2 rfl ?_ | refine o3 rfl ?_) | (apply za; refine o4 rfl rfl ?_) | (apply ze; refine p4 rfl rfl ?_) | (apply zg; refine p5 rfl rfl ?_) | (apply zm; refine p6 rfl rfl ?_) | (apply zn; first | refine q1 rfl ?_ | refine q2 rfl ?_ | refine p1 rfl ?_ | refine p2 rfl ?_) | (apply zp; first | refine q3 rfl rfl ?_ | refine q4 rfl rfl ?_) | (apply zl; first | refine o5 rfl rfl ?_ | refine p3 rfl ?_) | (apply zk; refine o7 rfl ?_) | (apply zi; refine o8 rfl rfl rfl ?_) | (apply zj; refine o9 rfl rfl rfl ?_) | (apply zc; refine m1 ?_; intro _ _) | (apply zb; first | (refine m2 rfl rfl ?_; intro _ _) | (refine m3 rfl ?_; intro _ _)) | refine Wg rfl rfl ?_ | (apply Ws <;> intro hg)) | (apply zs; refine m4 rfl rfl ?_; intro _ _) | refine Wi rfl ?_ | (apply Ws <;> intro hg))
    refine WC.condP rfl (fun h => ?_) (fun h => ?_)
    · repeat' (first | apply Wa | apply Wb | apply Wc | apply Wd | apply We | apply Wf | refine Wh (by exact rfl) ?_ | apply Wj | apply Wk | apply Wl | apply Wm | apply Wn | apply Wo | apply Wp | refine Wq (by exact rfl) ?_ | apply Wr | apply Wt | apply Wu | apply Wv | refine Wx rfl ?_ | refine Wy rfl ?_ | (apply zw; first | refine o1 rfl ?_ | (apply zf; first | refine o2 rfl ?_ | refine o3 rfl ?_) | (apply za; refine o4 rfl rfl ?_) | (apply ze; refine p4 rfl rfl ?_) | (apply zg; refine p5 rfl rfl ?_) | (apply zm; refine p6 rfl rfl ?_) | (apply zn; first | refine q1 rfl ?_ | refine q2 rfl ?_ | refine p1 rfl ?_ | refine p2 rfl ?_) | (apply zp; first | refine q3 rfl rfl ?_ | refine q4 rfl rfl ?_) | (apply zl; first | refine o5 rfl rfl ?_ | refine p3 rfl ?_) | (apply zk; refine o7 rfl ?_) | (apply zi; refine o8 rfl rfl rfl ?_) | (apply zj; refine o9 rfl rfl rfl ?_) | (apply zc; refine m1 ?_; intro _ _) | (apply zb; first | (refine m2 rfl rfl ?_; intro _ _) | (refine m3 rfl ?_; intro _ _)) | refine Wg rfl rfl ?_ | (apply Ws <;> intro hg)) | (apply zs; refine m4 rfl rfl ?_; intro _ _) | refine Wi rfl ?_ | (apply Ws <;> intro hg))
      exact Ends.ret2 rfl rfl ⟨n2, by omega, .inl ⟨by rw [hl]; exact hne, by rw [hl], hH2.tail⟩⟩
    · exact absurd hne h
  · repeat' (first | apply Wa | apply Wb | apply Wc | apply Wd | apply We | apply Wf | refine Wh (by exact rfl) ?_ | apply Wj | apply Wk | apply Wl | apply Wm | apply Wn | apply Wo | apply Wp | refine Wq (by exact rfl) ?_ | apply Wr | apply Wt | apply Wu | apply Wv | refine Wx rfl ?_ | refine Wy rfl ?_ | (apply zw; first | refine o1 rfl ?_ | (apply zf; first | refine o2 rfl ?_ | refine o3 rfl ?_) | (apply za; refine o4 rfl rfl ?_) | (apply ze; refine p4 rfl rfl ?_) | (apply zg; refine p5 rfl rfl ?_) | (apply zm; refine p6 rfl rfl ?_) | (apply zn; first | refine q1 rfl ?_ | refine q2 rfl ?_ | refine p1 rfl ?_ | refine p2 rfl ?_) | (apply zp; first | refine q3 rfl rfl ?_ | refine q4 rfl rfl ?_) | (apply zl; first | refine o5 rfl rfl ?_ | refine p3 rfl ?_) | (apply zk; refine o7 rfl ?_) | (apply zi; refine o8 rfl rfl rfl ?_) | (apply zj; refine o9 rfl rfl rfl ?_) | (apply zc; refine m1 ?_; intro _ _) | (apply zb; first | (refine m2 rfl rfl ?_; intro _ _) | (refine m3 rfl ?_; intro _ _)) | refine Wg rfl rfl ?_ | (apply Ws <;> intro hg)) | (apply zs; refine m4 rfl rfl ?_; intro _ _) | refine Wi rfl ?_ | (apply Ws <;> intro hg))
    refine WR.call (by first | exact gN | exact gS rfl) rfl rfl (isHeight_fs _ _) ?_
    rintro _ _ ⟨rfl, rfl⟩
    repeat' (first | apply Wa | apply Wb | apply Wc | apply Wd | apply We | apply Wf | refine Wh (by exact rfl) ?_ | apply Wj | apply Wk | apply Wl | apply Wm | apply Wn | apply Wo | apply Wp | refine Wq (by exact rfl) ?_ | apply Wr | apply Wt | apply Wu | apply Wv | refine Wx rfl ?_ | refine Wy rfl ?_ | (apply zw; first | refine o1 rfl ?_ | (apply zf; first | refine o2 rfl ?_ | refine o3 rfl ?_) | (apply za; refine o4 rfl rfl ?_) | (apply ze; refine p4 rfl rfl ?_) | (apply zg; refine p5 rfl rfl ?_) | (apply zm; refine p6 rfl rfl ?_) | (apply zn; first | refine q1 rfl ?_ | refine q2 rfl ?_ | refine p1 rfl ?_ | refine p2 rfl ?_) | (apply zp; first | refine q3 rfl rfl ?_ | refine q4 rfl rfl ?_) | (apply zl; first | refine o5 rfl rfl ?_ | refine p3 rfl ?_) | (apply zk; refine o7 rfl ?_) | (apply zi; refine o8 rfl rfl rfl ?_) | (apply zj; refine o9 rfl rfl rfl ?_) | (apply zc; refine m1 ?_; intro _ _) | (apply zb; first | (refine m2 rfl rfl ?_; intro _ _) | (refine m3 rfl ?_; intro _ _)) | refine Wg rfl rfl ?_ | (apply Ws <;> intro hg)) | (apply zs; refine m4 rfl rfl ?_; intro _ _) | refine Wi rfl ?_ | (apply Ws <;> intro hg))
    refine WC.condP rfl (fun h => ?_) (fun h => ?_)
    · have hl : levelE r c xs w = 1 := by simp only [levelE, he0, ne_eq, not_true_eq_false, if_false, h]
      repeat' (first | apply Wa | apply Wb | apply Wc | apply Wd | apply We | apply Wf | refine Wh (by exact rfl) ?_ | apply Wj | apply Wk | apply Wl | apply Wm | apply Wn | apply Wo | apply Wp | refine Wq (by exact rfl) ?_ | apply Wr | apply Wt | apply Wu | apply Wv | refine Wx rfl ?_ | refine Wy rfl ?_ | (apply zw; first | refine o1 rfl ?_ | (apply zf; first | refine o2 rfl ?_ | refine o3 rfl ?_) | (apply za; refine o4 rfl rfl ?_) | (apply ze; refine p4 rfl rfl ?_) | (apply zg; refine p5 rfl rfl ?_) | (apply zm; refine p6 rfl rfl ?_) | (apply zn; first | refine q1 rfl ?_ | refine q2 rfl ?_ | refine p1 rfl ?_ | refine p2 rfl ?_) | (apply zp; first | refine q3 rfl rfl ?_ | refine q4 rfl rfl ?_) | (apply zl; first | refine o5 rfl rfl ?_ | refine p3 rfl ?_) | (apply zk; refine o7 rfl ?_) | (apply zi; refine o8 rfl rfl rfl ?_) | (apply zj; refine o9 rfl rfl rfl ?_) | (apply zc; refine m1 ?_; intro _ _) | (apply zb; first | (refine m2 rfl rfl ?_; intro _ _) | (refine m3 rfl ?_; intro _ _)) | refine Wg rfl rfl ?_ | (apply Ws <;> intro hg)) | (apply zs; refine m4 rfl rfl ?_; intro _ _) | refine Wi rfl ?_ | (apply Ws <;> intro hg))
      exact Ends.ret2 rfl rfl ⟨n2, by omega, .inl ⟨by rw [hl]; decide, by rw [hl], hH2.tail.tail⟩⟩
    · have hl : levelE r c xs w = 0 := by simp only [levelE, he0, ne_eq, not_true_eq_false, if_false, Decidable.not_not.1 h, and_self, if_true]
      repeat' (first | apply Wa | apply Wb | apply Wc | apply Wd | apply We | apply Wf | refine Wh (by exact rfl) ?_ | apply Wj | apply Wk | apply Wl | apply Wm | apply Wn | apply Wo | apply Wp | refine Wq (by exact rfl) ?_ | apply Wr | apply Wt | apply Wu | apply Wv | refine Wx rfl ?_ | refine Wy rfl ?_ | (apply zw; first | refine o1 rfl ?_ | (apply zf; first | refine o2 rfl ?_ | refine o3 rfl ?_) | (apply za; refine o4 rfl rfl ?_) | (apply ze; refine p4 rfl rfl ?_) | (apply zg; refine p5 rfl rfl ?_) | (apply zm; refine p6 rfl rfl ?_) | (apply zn; first | refine q1 rfl ?_ | refine q2 rfl ?_ | refine p1 rfl ?_ | refine p2 rfl ?_) | (apply zp; first | refine q3 rfl rfl ?_ | refine q4 rfl rfl ?_) | (apply zl; first | refine o5 rfl rfl ?_ | refine p3 rfl ?_) | (apply zk; refine o7 rfl ?_) | (apply zi; refine o8 rfl rfl rfl ?_) | (apply zj; refine o9 rfl rfl rfl ?_) | (apply zc; refine m1 ?_; intro _ _) | (apply zb; first | (refine m2 rfl rfl ?_; intro _ _) | (refine m3 rfl ?_; intro _ _)) | refine Wg rfl rfl ?_ | (apply Ws <;> intro hg)) | (apply zs; refine m4 rfl rfl ?_; intro _ _) | refine Wi rfl ?_ | (apply Ws <;> intro hg))
      exact Ends.ret2 rfl rfl ⟨n2, by omega, .inr ⟨hl, b, rfl, hH2.sub (.cons_cons _ (List.sublist_cons_self _ _))⟩⟩

def bareL (r : Nat) (ds : List Int) : List Nat := (List.range r).filter fun p => decide (ds.getD p 0 = 0)

structure BareR (r c : Int) (xs : List Int) (w : Int) (l : List Nat) : Prop where
  ex : ∃ best ds, Lowest c.toNat xs.length (padded xs) xs.length best ∧ Depths xs.length (padded xs) best w ds ∧ l = bareL xs.length ds

theorem level_ok {r c : Int} {xs : List Int} {w : Int} (h : levelE r c xs w = 0) : checkE r c xs = 0 ∧ 0 ≤ w ∧ w ≤ 30 := by
  unfold levelE at h
  split at h
  · exact absurd h (by assumption)
  · split at h
    · rename_i h1 h2; exact ⟨by omega, h2⟩
    · cases h

theorem filter_le {l : List Nat} {p q : Nat → Bool} (h : ∀ x ∈ l, p x = q x) : l.filter p = l.filter q := List.filter_congr h

theorem marked_of {ms : List Bool} {ds : List Int} {r : Nat} (hr : r ≤ 37) (h : ∀ p, p < 37 → ms.getD p false = if p < r then decide (ds.getD p 0 = 0) else false) : marked ms 37 = bareL r ds := by
  have e : List.range 37 = List.range r ++ List.range' r (37 - r) := by
    rw [List.range_eq_range', List.range_eq_range', show (37 : Nat) = r + (37 - r) by omega, ← List.range'_append_1]
    simp
  unfold marked bareL
  rw [e, List.filter_append]
  have h1 : (List.range' r (37 - r)).filter (fun p => ms.getD p false) = [] := by
    rw [List.filter_eq_nil_iff]
    intro p hp
    rw [List.mem_range'_1] at hp
    rw [h p (by omega), if_neg (by omega)]
    simp
  rw [h1, List.append_nil]
  exact List.filter_congr fun p hp => by rw [List.mem_range] at hp; rw [h p (by omega), if_pos hp]

theorem Bare_fs {M : HL} {n : Nat} {H : Heap} (hH : hasH M n H) {r c : Int} {v : Value} {xs : List Int} (hS : Sl M 1 v (ints xs)) (hx : xs.length ≤ 1000) (w : Int) :
    FS C 24 [.agg #[.int .i64 r, .int .i64 c, v], .int .i64 w] H (fun e H' => ∃ n', n ≤ n' ∧ (levelE r c xs w ≠ 0 ∧ e = .tuple #[.slice none 0 0, .int .i64 (levelE r c xs w)] ∧ hasH M n' H' ∨
      levelE r c xs w = 0 ∧ ∃ v' Mx l, e = .tuple #[v', .int .i64 0] ∧ Own 3 1 v' (nodes l) Mx ∧ hasH (Mx ++ M) n' H' ∧ BareR r c xs w l)) := by
  have h1 := hS.one_
  refine FS.intro (pf := pf24) rfl rfl rfl ?_
  repeat' (first | apply Wa | apply Wb | apply Wc | apply Wd | apply We | apply Wf | refine Wh (by exact rfl) ?_ | apply Wj | apply Wk | apply Wl | apply Wm | apply Wn | apply Wo | apply Wp | refine Wq (by exact rfl) ?_ | apply Wr | apply Wt | apply Wu | apply Wv | refine Wx rfl ?_ | refine Wy rfl ?_ | (apply zw; first | refine o1 rfl ?_ | (apply zf; first | refine o2 rfl ?_ | refine o3 rfl ?_) | (apply za; refine o4 rfl rfl ?_) | (apply ze; refine p4 rfl rfl ?_) | (apply zg; refine p5 rfl rfl ?_) | (apply zm; refine p6 rfl rfl ?_) | (apply zn; first | refine q1 rfl ?_ | refine q2 rfl ?_ | refine p1 rfl ?_ | refine p2 rfl ?_) | (apply zp; first | refine q3 rfl rfl ?_ | refine q4 rfl rfl ?_) | (apply zl; first | refine o5 rfl rfl ?_ | refine p3 rfl ?_) | (apply zk; refine o7 rfl ?_) | (apply zi; refine o8 rfl rfl rfl ?_) | (apply zj; refine o9 rfl rfl rfl ?_) | (apply zc; refine m1 ?_; intro _ _) | (apply zb; first | (refine m2 rfl rfl ?_; intro _ _) | (refine m3 rfl ?_; intro _ _)) | refine Wg rfl rfl ?_ | (apply Ws <;> intro hg)) | (apply zs; refine m4 rfl rfl ?_; intro _ _) | refine Wi rfl ?_ | (apply Ws <;> intro hg))
  refine WR.call (by first | exact gN | exact gS rfl) rfl rfl (layAt_fs (by assumption) hS.cons hx w) ?_
  rintro _ H2 ⟨n2, hn2, ⟨hne, rfl, hH2⟩ | ⟨he0, bg, rfl, hH2⟩⟩
  · repeat' (first | apply Wa | apply Wb | apply Wc | apply Wd | apply We | apply Wf | refine Wh (by exact rfl) ?_ | apply Wj | apply Wk | apply Wl | apply Wm | apply Wn | apply Wo | apply Wp | refine Wq (by exact rfl) ?_ | apply Wr | apply Wt | apply Wu | apply Wv | refine Wx rfl ?_ | refine Wy rfl ?_ | (apply zw; first | refine o1 rfl ?_ | (apply zf; first | refine o2 rfl ?_ | refine o3 rfl ?_) | (apply za; refine o4 rfl rfl ?_) | (apply ze; refine p4 rfl rfl ?_) | (apply zg; refine p5 rfl rfl ?_) | (apply zm; refine p6 rfl rfl ?_) | (apply zn; first | refine q1 rfl ?_ | refine q2 rfl ?_ | refine p1 rfl ?_ | refine p2 rfl ?_) | (apply zp; first | refine q3 rfl rfl ?_ | refine q4 rfl rfl ?_) | (apply zl; first | refine o5 rfl rfl ?_ | refine p3 rfl ?_) | (apply zk; refine o7 rfl ?_) | (apply zi; refine o8 rfl rfl rfl ?_) | (apply zj; refine o9 rfl rfl rfl ?_) | (apply zc; refine m1 ?_; intro _ _) | (apply zb; first | (refine m2 rfl rfl ?_; intro _ _) | (refine m3 rfl ?_; intro _ _)) | refine Wg rfl rfl ?_ | (apply Ws <;> intro hg)) | (apply zs; refine m4 rfl rfl ?_; intro _ _) | refine Wi rfl ?_ | (apply Ws <;> intro hg))
    refine WC.condP rfl (fun h => ?_) (fun h => ?_)
    · repeat' (first | apply Wa | apply Wb | apply Wc | apply Wd | apply We | apply Wf | refine Wh (by exact rfl) ?_ | apply Wj | apply Wk | apply Wl | apply Wm | apply Wn | apply Wo | apply Wp | refine Wq (by exact rfl) ?_ | apply Wr | apply Wt | apply Wu | apply Wv | refine Wx rfl ?_ | refine Wy rfl ?_ | (apply zw; first | refine o1 rfl ?_ | (apply zf; first | refine o2 rfl ?_ | refine o3 rfl ?_) | (apply za; refine o4 rfl rfl ?_) | (apply ze; refine p4 rfl rfl ?_) | (apply zg; refine p5 rfl rfl ?_) | (apply zm; refine p6 rfl rfl ?_) | (apply zn; first | refine q1 rfl ?_ | refine q2 rfl ?_ | refine p1 rfl ?_ | refine p2 rfl ?_) | (apply zp; first | refine q3 rfl rfl ?_ | refine q4 rfl rfl ?_) | (apply zl; first | refine o5 rfl rfl ?_ | refine p3 rfl ?_) | (apply zk; refine o7 rfl ?_) | (apply zi; refine o8 rfl rfl rfl ?_) | (apply zj; refine o9 rfl rfl rfl ?_) | (apply zc; refine m1 ?_; intro _ _) | (apply zb; first | (refine m2 rfl rfl ?_; intro _ _) | (refine m3 rfl ?_; intro _ _)) | refine Wg rfl rfl ?_ | (apply Ws <;> intro hg)) | (apply zs; refine m4 rfl rfl ?_; intro _ _) | refine Wi rfl ?_ | (apply Ws <;> intro hg))
      exact Ends.ret2 rfl rfl ⟨n2, by omega, .inl ⟨hne, rfl, hH2.tail⟩⟩
    · exact absurd hne h
  · obtain ⟨hck, hw⟩ := level_ok he0
    obtain ⟨hh, hc6, hr36⟩ := HS_of hck
    repeat' (first | apply Wa | apply Wb | apply Wc | apply Wd | apply We | apply Wf | refine Wh (by exact rfl) ?_ | apply Wj | apply Wk | apply Wl | apply Wm | apply Wn | apply Wo | apply Wp | refine Wq (by exact rfl) ?_ | apply Wr | apply Wt | apply Wu | apply Wv | refine Wx rfl ?_ | refine Wy rfl ?_ | (apply zw; first | refine o1 rfl ?_ | (apply zf; first | refine o2 rfl ?_ | refine o3 rfl ?_) | (apply za; refine o4 rfl rfl ?_) | (apply ze; refine p4 rfl rfl ?_) | (apply zg; refine p5 rfl rfl ?_) | (apply zm; refine p6 rfl rfl ?_) | (apply zn; first | refine q1 rfl ?_ | refine q2 rfl ?_ | refine p1 rfl ?_ | refine p2 rfl ?_) | (apply zp; first | refine q3 rfl rfl ?_ | refine q4 rfl rfl ?_) | (apply zl; first | refine o5 rfl rfl ?_ | refine p3 rfl ?_) | (apply zk; refine o7 rfl ?_) | (apply zi; refine o8 rfl rfl rfl ?_) | (apply zj; refine o9 rfl rfl rfl ?_) | (apply zc; refine m1 ?_; intro _ _) | (apply zb; first | (refine m2 rfl rfl ?_; intro _ _) | (refine m3 rfl ?_; intro _ _)) | refine Wg rfl rfl ?_ | (apply Ws <;> intro hg)) | (apply zs; refine m4 rfl rfl ?_; intro _ _) | refine Wi rfl ?_ | (apply Ws <;> intro hg))
    refine WR.call (by first | exact gN | exact gS rfl) rfl rfl (depths_fs hH2 (by first | assumption | (repeat' (first | exact .head _ | assumption | apply List.mem_cons_of_mem))) hh hc6 hw) ?_
    rintro _ H3 ⟨best, ds, n3, rfl, hn3, hH3, hl, hd⟩
    repeat' (first | apply Wa | apply Wb | apply Wc | apply Wd | apply We | apply Wf | refine Wh (by exact rfl) ?_ | apply Wj | apply Wk | apply Wl | apply Wm | apply Wn | apply Wo | apply Wp | refine Wq (by exact rfl) ?_ | apply Wr | apply Wt | apply Wu | apply Wv | refine Wx rfl ?_ | refine Wy rfl ?_ | (apply zw; first | refine o1 rfl ?_ | (apply zf; first | refine o2 rfl ?_ | refine o3 rfl ?_) | (apply za; refine o4 rfl rfl ?_) | (apply ze; refine p4 rfl rfl ?_) | (apply zg; refine p5 rfl rfl ?_) | (apply zm; refine p6 rfl rfl ?_) | (apply zn; first | refine q1 rfl ?_ | refine q2 rfl ?_ | refine p1 rfl ?_ | refine p2 rfl ?_) | (apply zp; first | refine q3 rfl rfl ?_ | refine q4 rfl rfl ?_) | (apply zl; first | refine o5 rfl rfl ?_ | refine p3 rfl ?_) | (apply zk; refine o7 rfl ?_) | (apply zi; refine o8 rfl rfl rfl ?_) | (apply zj; refine o9 rfl rfl rfl ?_) | (apply zc; refine m1 ?_; intro _ _) | (apply zb; first | (refine m2 rfl rfl ?_; intro _ _) | (refine m3 rfl ?_; intro _ _)) | refine Wg rfl rfl ?_ | (apply Ws <;> intro hg)) | (apply zs; refine m4 rfl rfl ?_; intro _ _) | refine Wi rfl ?_ | (apply Ws <;> intro hg))
    rename_i hq
    refine WR.storeAll (by first | exact gN | exact gS rfl) hq rfl rfl (ls := ints ds) (by simp [Value.cells]) (by simpa using hd.len) (by repeat' (first | exact .here | apply Upd.there)) (ints_one _) (by simpa using hd.len) fun H5 hH5 => ?_
    clear hq
    repeat' (first | apply Wa | apply Wb | apply Wc | apply Wd | apply We | apply Wf | refine Wh (by exact rfl) ?_ | apply Wj | apply Wk | apply Wl | apply Wm | apply Wn | apply Wo | apply Wp | refine Wq (by exact rfl) ?_ | apply Wr | apply Wt | apply Wu | apply Wv | refine Wx rfl ?_ | refine Wy rfl ?_ | (apply zw; first | refine o1 rfl ?_ | (apply zf; first | refine o2 rfl ?_ | refine o3 rfl ?_) | (apply za; refine o4 rfl rfl ?_) | (apply ze; refine p4 rfl rfl ?_) | (apply zg; refine p5 rfl rfl ?_) | (apply zm; refine p6 rfl rfl ?_) | (apply zn; first | refine q1 rfl ?_ | refine q2 rfl ?_ | refine p1 rfl ?_ | refine p2 rfl ?_) | (apply zp; first | refine q3 rfl rfl ?_ | refine q4 rfl rfl ?_) | (apply zl; first | refine o5 rfl rfl ?_ | refine p3 rfl ?_) | (apply zk; refine o7 rfl ?_) | (apply zi; refine o8 rfl rfl rfl ?_) | (apply zj; refine o9 rfl rfl rfl ?_) | (apply zc; refine m1 ?_; intro _ _) | (apply zb; first | (refine m2 rfl rfl ?_; intro _ _) | (refine m3 rfl ?_; intro _ _)) | refine Wg rfl rfl ?_ | (apply Ws <;> intro hg)) | (apply zs; refine m4 rfl rfl ?_; intro _ _) | refine Wi rfl ?_ | (apply Ws <;> intro hg))
    rename_i hq
    refine WC.loop (fun k : Nat => [(4, .slice none 0 0), (5, .int .i64 0), (8, .pointer (some ⟨n3, 0, some 0⟩)), (9, .pointer (some ⟨n3 + 1, 0, some 0⟩)), (26, .int .i64 (xs.length : Int)), (27, .int .i64 (k : Int))]) (fun _ => [])
      (fun k H => k ≤ xs.length ∧ ∃ ms : List Bool, ms.length = 37 ∧ (∀ p, p < 37 → ms.getD p false = if p < k then decide (ds.getD p 0 = 0) else false) ∧
        hasH ((n3 + 1, .row 97 0 0 (bools ms)) :: (n3, .row 86 0 0 (ints ds)) :: (bg, .row 99 0 0 (gcells c.toNat xs.length (padded xs))) :: (n, .row 24 0 0 [.int .i64 r, .int .i64 c, v]) :: M) (n3 + 1 + 1) H)
      (fun k => xs.length - k) 0 (by repeat' (first | exact .nil | refine .cons rfl ?_)) rfl ⟨Nat.zero_le _, List.replicate 37 false, rfl, fun p hp => ?_, hq⟩ ?_
    · rw [if_neg (Nat.not_lt_zero _), List.getD_eq_getElem?_getD, List.getElem?_replicate, if_pos hp]; rfl
    clear hq
    rintro k H6 ⟨hk, ms, hms, hat, hH6⟩
    have hdl := hd.len
    repeat' (first | apply Wa | apply Wb | apply Wc | apply Wd | apply We | apply Wf | refine Wh (by exact rfl) ?_ | apply Wj | apply Wk | apply Wl | apply Wm | apply Wn | apply Wo | apply Wp | refine Wq (by exact rfl) ?_ | apply Wr | apply Wt | apply Wu | apply Wv | refine Wx rfl ?_ | refine Wy rfl ?_ | (apply zw; first | refine o1 rfl ?_ | (apply zf; first | refine o2 rfl ?_ | refine o3 rfl ?_) | (apply za; refine o4 rfl rfl ?_) | (apply ze; refine p4 rfl rfl ?_) | (apply zg; refine p5 rfl rfl ?_) | (apply zm; refine p6 rfl rfl ?_) | (apply zn; first | refine q1 rfl ?_ | refine q2 rfl ?_ | refine p1 rfl ?_ | refine p2 rfl ?_) | (apply zp; first | refine q3 rfl rfl ?_ | refine q4 rfl rfl ?_) | (apply zl; first | refine o5 rfl rfl ?_ | refine p3 rfl ?_) | (apply zk; refine o7 rfl ?_) | (apply zi; refine o8 rfl rfl rfl ?_) | (apply zj; refine o9 rfl rfl rfl ?_) | (apply zc; refine m1 ?_; intro _ _) | (apply zb; first | (refine m2 rfl rfl ?_; intro _ _) | (refine m3 rfl ?_; intro _ _)) | refine Wg rfl rfl ?_ | (apply Ws <;> intro hg)) | (apply zs; refine m4 rfl rfl ?_; intro _ _) | refine Wi rfl ?_ | (apply Ws <;> intro hg))
    refine WC.condP rfl (fun hlt => ?_) (fun hlt => ?_)
    · have hk' : k < xs.length := by omega
      repeat' (first | apply Wa | apply Wb | apply Wc | apply Wd | apply We | apply Wf | refine Wh (by exact rfl) ?_ | apply Wj | apply Wk | apply Wl | apply Wm | apply Wn | apply Wo | apply Wp | refine Wq (by exact rfl) ?_ | apply Wr | apply Wt | apply Wu | apply Wv | refine Wx rfl ?_ | refine Wy rfl ?_ | (apply zw; first | refine o1 rfl ?_ | (apply zf; first | refine o2 rfl ?_ | refine o3 rfl ?_) | (apply za; refine o4 rfl rfl ?_) | (apply ze; refine p4 rfl rfl ?_) | (apply zg; refine p5 rfl rfl ?_) | (apply zm; refine p6 rfl rfl ?_) | (apply zn; first | refine q1 rfl ?_ | refine q2 rfl ?_ | refine p1 rfl ?_ | refine p2 rfl ?_) | (apply zp; first | refine q3 rfl rfl ?_ | refine q4 rfl rfl ?_) | (apply zl; first | refine o5 rfl rfl ?_ | refine p3 rfl ?_) | (apply zk; refine o7 rfl ?_) | (apply zi; refine o8 rfl rfl rfl ?_) | (apply zj; refine o9 rfl rfl rfl ?_) | (apply zc; refine m1 ?_; intro _ _) | (apply zb; first | (refine m2 rfl rfl ?_; intro _ _) | (refine m3 rfl ?_; intro _ _)) | refine Wg rfl rfl ?_ | (apply Ws <;> intro hg)) | (apply zs; refine m4 rfl rfl ?_; intro _ _) | refine Wi rfl ?_ | (apply Ws <;> intro hg))
      refine WR.op (by first | exact gN | exact gS rfl) rfl (OpV.loadI rfl hH6 (by first | assumption | (repeat' (first | exact .head _ | assumption | apply List.mem_cons_of_mem))) (by omega)) ?_
      repeat' (first | apply Wa | apply Wb | apply Wc | apply Wd | apply We | apply Wf | refine Wh (by exact rfl) ?_ | apply Wj | apply Wk | apply Wl | apply Wm | apply Wn | apply Wo | apply Wp | refine Wq (by exact rfl) ?_ | apply Wr | apply Wt | apply Wu | apply Wv | refine Wx rfl ?_ | refine Wy rfl ?_ | (apply zw; first | refine o1 rfl ?_ | (apply zf; first | refine o2 rfl ?_ | refine o3 rfl ?_) | (apply za; refine o4 rfl rfl ?_) | (apply ze; refine p4 rfl rfl ?_) | (apply zg; refine p5 rfl rfl ?_) | (apply zm; refine p6 rfl rfl ?_) | (apply zn; first | refine q1 rfl ?_ | refine q2 rfl ?_ | refine p1 rfl ?_ | refine p2 rfl ?_) | (apply zp; first | refine q3 rfl rfl ?_ | refine q4 rfl rfl ?_) | (apply zl; first | refine o5 rfl rfl ?_ | refine p3 rfl ?_) | (apply zk; refine o7 rfl ?_) | (apply zi; refine o8 rfl rfl rfl ?_) | (apply zj; refine o9 rfl rfl rfl ?_) | (apply zc; refine m1 ?_; intro _ _) | (apply zb; first | (refine m2 rfl rfl ?_; intro _ _) | (refine m3 rfl ?_; intro _ _)) | refine Wg rfl rfl ?_ | (apply Ws <;> intro hg)) | (apply zs; refine m4 rfl rfl ?_; intro _ _) | refine Wi rfl ?_ | (apply Ws <;> intro hg))
      refine WR.storeB (by first | exact gN | exact gS rfl) hH6 rfl rfl (by repeat' (first | exact .here | apply Upd.there)) (by omega) fun H7 hH7 => ?_
      repeat' (first | apply Wa | apply Wb | apply Wc | apply Wd | apply We | apply Wf | refine Wh (by exact rfl) ?_ | apply Wj | apply Wk | apply Wl | apply Wm | apply Wn | apply Wo | apply Wp | refine Wq (by exact rfl) ?_ | apply Wr | apply Wt | apply Wu | apply Wv | refine Wx rfl ?_ | refine Wy rfl ?_ | (apply zw; first | refine o1 rfl ?_ | (apply zf; first | refine o2 rfl ?_ | refine o3 rfl ?_) | (apply za; refine o4 rfl rfl ?_) | (apply ze; refine p4 rfl rfl ?_) | (apply zg; refine p5 rfl rfl ?_) | (apply zm; refine p6 rfl rfl ?_) | (apply zn; first | refine q1 rfl ?_ | refine q2 rfl ?_ | refine p1 rfl ?_ | refine p2 rfl ?_) | (apply zp; first | refine q3 rfl rfl ?_ | refine q4 rfl rfl ?_) | (apply zl; first | refine o5 rfl rfl ?_ | refine p3 rfl ?_) | (apply zk; refine o7 rfl ?_) | (apply zi; refine o8 rfl rfl rfl ?_) | (apply zj; refine o9 rfl rfl rfl ?_) | (apply zc; refine m1 ?_; intro _ _) | (apply zb; first | (refine m2 rfl rfl ?_; intro _ _) | (refine m3 rfl ?_; intro _ _)) | refine Wg rfl rfl ?_ | (apply Ws <;> intro hg)) | (apply zs; refine m4 rfl rfl ?_; intro _ _) | refine Wi rfl ?_ | (apply Ws <;> intro hg))
      refine Ends.loop (k + 1) (by omega) (by repeat' (first | exact .nil | refine .cons rfl ?_)) rfl ⟨hk', _, by rw [List.length_set]; exact hms, fun p hp => ?_, hH7⟩
      rw [List.getD_eq_getElem?_getD, List.getElem?_set]
      by_cases hpk : k = p
      · subst hpk; rw [if_pos rfl, if_pos (by omega), if_pos (by omega)]; rfl
      · rw [if_neg hpk, ← List.getD_eq_getElem?_getD, hat p hp]
        by_cases h2 : p < k
        · rw [if_pos h2, if_pos (by omega)]
        · rw [if_neg h2, if_neg (by omega)]
    · have hk' : k = xs.length := by omega
      subst hk'
      repeat' (first | apply Wa | apply Wb | apply Wc | apply Wd | apply We | apply Wf | refine Wh (by exact rfl) ?_ | apply Wj | apply Wk | apply Wl | apply Wm | apply Wn | apply Wo | apply Wp | refine Wq (by exact rfl) ?_ | apply Wr | apply Wt | apply Wu | apply Wv | refine Wx rfl ?_ | refine Wy rfl ?_ | (apply zw; first | refine o1 rfl ?_ | (apply zf; first | refine o2 rfl ?_ | refine o3 rfl ?_) | (apply za; refine o4 rfl rfl ?_) | (apply ze; refine p4 rfl rfl ?_) | (apply zg; refine p5 rfl rfl ?_) | (apply zm; refine p6 rfl rfl ?_) | (apply zn; first | refine q1 rfl ?_ | refine q2 rfl ?_ | refine p1 rfl ?_ | refine p2 rfl ?_) | (apply zp; first | refine q3 rfl rfl ?_ | refine q4 rfl rfl ?_) | (apply zl; first | refine o5 rfl rfl ?_ | refine p3 rfl ?_) | (apply zk; refine o7 rfl ?_) | (apply zi; refine o8 rfl rfl rfl ?_) | (apply zj; refine o9 rfl rfl rfl ?_) | (apply zc; refine m1 ?_; intro _ _) | (apply zb; first | (refine m2 rfl rfl ?_; intro _ _) | (refine m3 rfl ?_; intro _ _)) | refine Wg rfl rfl ?_ | (apply Ws <;> intro hg)) | (apply zs; refine m4 rfl rfl ?_; intro _ _) | refine Wi rfl ?_ | (apply Ws <;> intro hg))
      refine WR.call (by first | exact gN | exact gS rfl) rfl rfl (marks_fs hH6 (.head _) hms) ?_
      rintro v2 H7 ⟨Mx, n7, hn7, hO, hH7⟩
      repeat' (first | apply Wa | apply Wb | apply Wc | apply Wd | apply We | apply Wf | refine Wh (by exact rfl) ?_ | apply Wj | apply Wk | apply Wl | apply Wm | apply Wn | apply Wo | apply Wp | refine Wq (by exact rfl) ?_ | apply Wr | apply Wt | apply Wu | apply Wv | refine Wx rfl ?_ | refine Wy rfl ?_ | (apply zw; first | refine o1 rfl ?_ | (apply zf; first | refine o2 rfl ?_ | refine o3 rfl ?_) | (apply za; refine o4 rfl rfl ?_) | (apply ze; refine p4 rfl rfl ?_) | (apply zg; refine p5 rfl rfl ?_) | (apply zm; refine p6 rfl rfl ?_) | (apply zn; first | refine q1 rfl ?_ | refine q2 rfl ?_ | refine p1 rfl ?_ | refine p2 rfl ?_) | (apply zp; first | refine q3 rfl rfl ?_ | refine q4 rfl rfl ?_) | (apply zl; first | refine o5 rfl rfl ?_ | refine p3 rfl ?_) | (apply zk; refine o7 rfl ?_) | (apply zi; refine o8 rfl rfl rfl ?_) | (apply zj; refine o9 rfl rfl rfl ?_) | (apply zc; refine m1 ?_; intro _ _) | (apply zb; first | (refine m2 rfl rfl ?_; intro _ _) | (refine m3 rfl ?_; intro _ _)) | refine Wg rfl rfl ?_ | (apply Ws <;> intro hg)) | (apply zs; refine m4 rfl rfl ?_; intro _ _) | refine Wi rfl ?_ | (apply Ws <;> intro hg))
      refine Ends.ret2 rfl rfl ⟨n7, by omega, .inr ⟨he0, v2, Mx, bareL xs.length ds, rfl, ?_, ?_, best, ds, hl, hd, rfl⟩⟩
      · rw [← marked_of (by omega) hat]; exact hO
      · exact hH7.sub (.append (.refl _) (.cons _ (.cons _ (.cons _ (.cons _ (.refl _))))))

end Go.Proofs.Ytbnppcgmbiajnaa.Eb
