import Derived.Test.YtbnppcgmbiajnaaE6
namespace Go.Proofs.Ytbnppcgmbiajnaa.Eb
open Go Go.Abs Go.Low
set_option linter.unusedVariables false
set_option linter.unusedSimpArgs false
attribute [local irreducible] gOK WS WC WR WD Ends FS YS OpV seqK blockK loopK midK retK rdK asgK rangeEnd sat Cell

/-- All heights: of the places, and 0 for the river and what is behind it. -/
abbrev padded (xs : List Int) : List Int := xs ++ List.replicate (37 - xs.length) 0

def levelE (r c : Int) (xs : List Int) (w : Int) : Int := if checkE r c xs ≠ 0 then checkE r c xs else if 0 ≤ w ∧ w ≤ 30 then 0 else 1

/-- A shore that is good. -/
theorem check_ok {r c : Int} {xs : List Int} (h : checkE r c xs = 0) : 1 ≤ r ∧ r ≤ 6 ∧ 1 ≤ c ∧ c ≤ 6 ∧ (xs.length : Int) = r * c ∧ ∀ x ∈ xs, 0 ≤ x ∧ x ≤ 30 := by
  unfold checkE at h
  split at h
  · cases h
  · split at h
    · cases h
    · split at h
      · rename_i h1 h2 h3
        exact ⟨by omega, by omega, by omega, by omega, by omega, h3⟩
      · cases h

theorem padded_get {xs : List Int} (h : xs.length ≤ 37) (y : Nat) : (padded xs).getD y 0 = xs.getD y 0 := by
  rw [List.getD_eq_getElem?_getD, List.getD_eq_getElem?_getD]
  by_cases hy : y < xs.length
  · rw [List.getElem?_append_left hy]
  · rw [List.getElem?_append_right (by omega), List.getElem?_eq_none (Nat.le_of_not_lt hy), List.getElem?_replicate]
    split <;> rfl

theorem HS_of {r c : Int} {xs : List Int} (h : checkE r c xs = 0) : HS c.toNat xs.length (padded xs) ∧ c.toNat ≤ 6 ∧ xs.length ≤ 36 := by
  obtain ⟨h1, h2, h3, h4, h5, h6⟩ := check_ok h
  have hp := prod_le ⟨h1, h2⟩ ⟨h3, h4⟩
  have hrc : c ≤ r * c := by
    have := Int.mul_le_mul_of_nonneg_right (show (1 : Int) ≤ r by omega) (show 0 ≤ c by omega)
    omega
  refine ⟨⟨by omega, by omega, by omega, by simp; omega, fun y => ?_⟩, by omega, by omega⟩
  rw [padded_get (by omega), List.getD_eq_getElem?_getD]
  by_cases hy : y < xs.length
  · rw [List.getElem?_eq_getElem hy]; exact h6 _ (List.getElem_mem hy)
  · rw [List.getElem?_eq_none (Nat.le_of_not_lt hy)]; simp

theorem layAt_fs {M : HL} {n : Nat} {H : Heap} (hH : hasH M n H) {r c : Int} {v : Value} {xs : List Int} (hS : Sl M 1 v (ints xs)) (hx : xs.length ≤ 1000) (w : Int) :
    FS C 59 [.agg #[.int .i64 r, .int .i64 c, v], .int .i64 w] H (fun e H' => ∃ n', n ≤ n' ∧ (levelE r c xs w ≠ 0 ∧ e = .tuple #[.pointer none, .int .i64 (levelE r c xs w)] ∧ hasH M n' H' ∨
      levelE r c xs w = 0 ∧ ∃ b, e = .tuple #[.pointer (some ⟨b, 0, some 0⟩), .int .i64 0] ∧ hasH ((b, .row 99 0 0 (gcells c.toNat xs.length (padded xs))) :: M) n' H')) := by
  have h1 := hS.one_
  refine FS.intro (pf := pf59) rfl rfl rfl ?_
  repeat' (first | refine WC.seq ?_ | refine WC.skip ?_ | refine WC.ret ?_ | refine WC.exit ?_ | refine WC.block ?_ | refine WC.region ?_ | refine WC.regD (by exact rfl) ?_ | refine WC.label ?_ | refine WC.goto ?_ | refine WR.nil ?_ | refine Ends.seq ?_ | refine Ends.seq_ret ?_ | refine Ends.seq_exit ?_ | refine Ends.block ?_ | refine Ends.block_ret ?_ | refine Ends.block_exit ?_ | refine Ends.block_pass (by exact rfl) ?_ | refine Ends.mid_ret ?_ | refine Ends.mid_exit ?_ | refine Ends.loop_ret ?_ | refine Ends.loop_exit ?_ | refine WC.condT rfl ?_ | refine WC.condF rfl ?_ | (refine zw ?_; first | refine o1 rfl ?_ | (refine zf ?_; first | refine o2 rfl ?_ | refine o3 rfl ?_) | (refine za ?_; refine o4 rfl rfl ?_) | (refine ze ?_; refine p4 rfl rfl ?_) | (refine zg ?_; refine p5 rfl rfl ?_) | (refine zm ?_; refine p6 rfl rfl ?_) | (refine zn ?_; first | refine q1 rfl ?_ | refine q2 rfl ?_ | refine p1 rfl ?_ | refine p2 rfl ?_) | (refine zp ?_; first | refine q3 rfl rfl ?_ | refine q4 rfl rfl ?_) | (refine zl ?_; first | refine o5 rfl rfl ?_ | refine p3 rfl ?_) | (refine zk ?_; refine o7 rfl ?_) | (refine zi ?_; refine o8 rfl rfl rfl ?_) | (refine zj ?_; refine o9 rfl rfl rfl ?_) | (refine zc ?_; refine m1 ?_; intro _ _) | (refine zb ?_; first | (refine m2 rfl rfl ?_; intro _ _) | (refine m3 rfl ?_; intro _ _)) | refine WR.guardF rfl rfl ?_ | (refine WR.splitG (fun hg => ?_) (fun hg => ?_))) | (refine zs ?_; refine m4 rfl rfl ?_; intro _ _) | refine WR.guardF0 rfl ?_ | (refine WR.splitG (fun hg => ?_) (fun hg => ?_)))
  refine WR.call (by first | exact gN | exact gS rfl) rfl rfl (lay_fs (by assumption) hS.cons hx) ?_
  rintro _ H2 ⟨n2, hn2, ⟨hne, rfl, hH2⟩ | ⟨he0, b, rfl, hH2⟩⟩
  · have hl : levelE r c xs w = checkE r c xs := by simp [levelE, hne]
    repeat' (first | refine WC.seq ?_ | refine WC.skip ?_ | refine WC.ret ?_ | refine WC.exit ?_ | refine WC.block ?_ | refine WC.region ?_ | refine WC.regD (by exact rfl) ?_ | refine WC.label ?_ | refine WC.goto ?_ | refine WR.nil ?_ | refine Ends.seq ?_ | refine Ends.seq_ret ?_ | refine Ends.seq_exit ?_ | refine Ends.block ?_ | refine Ends.block_ret ?_ | refine Ends.block_exit ?_ | refine Ends.block_pass (by exact rfl) ?_ | refine Ends.mid_ret ?_ | refine Ends.mid_exit ?_ | refine Ends.loop_ret ?_ | refine Ends.loop_exit ?_ | refine WC.condT rfl ?_ | refine WC.condF rfl ?_ | (refine zw ?_; first | refine o1 rfl ?_ | (refine zf ?_; first | refine o2 rfl ?_ | refine o3 rfl ?_) | (refine za ?_; refine o4 rfl rfl ?_) | (refine ze ?_; refine p4 rfl rfl ?_) | (refine zg ?_; refine p5 rfl rfl ?_) | (refine zm ?_; refine p6 rfl rfl ?_) | (refine zn ?_; first | refine q1 rfl ?_ | refine q2 rfl ?_ | refine p1 rfl ?_ | refine p2 rfl ?_) | (refine zp ?_; first | refine q3 rfl rfl ?_ | refine q4 rfl rfl ?_) | (refine zl ?_; first | refine o5 rfl rfl ?_ | refine p3 rfl ?_) | (refine zk ?_; refine o7 rfl ?_) | (refine zi ?_; refine o8 rfl rfl rfl ?_) | (refine zj ?_; refine o9 rfl rfl rfl ?_) | (refine zc ?_; refine m1 ?_; intro _ _) | (refine zb ?_; first | (refine m2 rfl rfl ?_; intro _ _) | (refine m3 rfl ?_; intro _ _)) | refine WR.guardF rfl rfl ?_ | (refine WR.splitG (fun hg => ?_) (fun hg => ?_))) | (refine zs ?_; refine m4 rfl rfl ?_; intro _ _) | refine WR.guardF0 rfl ?_ | (refine WR.splitG (fun hg => ?_) (fun hg => ?_)))
    refine WC.condP rfl (fun h => ?_) (fun h => ?_)
    · repeat' (first | refine WC.seq ?_ | refine WC.skip ?_ | refine WC.ret ?_ | refine WC.exit ?_ | refine WC.block ?_ | refine WC.region ?_ | refine WC.regD (by exact rfl) ?_ | refine WC.label ?_ | refine WC.goto ?_ | refine WR.nil ?_ | refine Ends.seq ?_ | refine Ends.seq_ret ?_ | refine Ends.seq_exit ?_ | refine Ends.block ?_ | refine Ends.block_ret ?_ | refine Ends.block_exit ?_ | refine Ends.block_pass (by exact rfl) ?_ | refine Ends.mid_ret ?_ | refine Ends.mid_exit ?_ | refine Ends.loop_ret ?_ | refine Ends.loop_exit ?_ | refine WC.condT rfl ?_ | refine WC.condF rfl ?_ | (refine zw ?_; first | refine o1 rfl ?_ | (refine zf ?_; first | refine o2 rfl ?_ | refine o3 rfl ?_) | (refine za ?_; refine o4 rfl rfl ?_) | (refine ze ?_; refine p4 rfl rfl ?_) | (refine zg ?_; refine p5 rfl rfl ?_) | (refine zm ?_; refine p6 rfl rfl ?_) | (refine zn ?_; first | refine q1 rfl ?_ | refine q2 rfl ?_ | refine p1 rfl ?_ | refine p2 rfl ?_) | (refine zp ?_; first | refine q3 rfl rfl ?_ | refine q4 rfl rfl ?_) | (refine zl ?_; first | refine o5 rfl rfl ?_ | refine p3 rfl ?_) | (refine zk ?_; refine o7 rfl ?_) | (refine zi ?_; refine o8 rfl rfl rfl ?_) | (refine zj ?_; refine o9 rfl rfl rfl ?_) | (refine zc ?_; refine m1 ?_; intro _ _) | (refine zb ?_; first | (refine m2 rfl rfl ?_; intro _ _) | (refine m3 rfl ?_; intro _ _)) | refine WR.guardF rfl rfl ?_ | (refine WR.splitG (fun hg => ?_) (fun hg => ?_))) | (refine zs ?_; refine m4 rfl rfl ?_; intro _ _) | refine WR.guardF0 rfl ?_ | (refine WR.splitG (fun hg => ?_) (fun hg => ?_)))
      exact Ends.ret2 rfl rfl ⟨n2, by omega, .inl ⟨by rw [hl]; exact hne, by rw [hl], hH2.tail⟩⟩
    · exact absurd hne h
  · repeat' (first | refine WC.seq ?_ | refine WC.skip ?_ | refine WC.ret ?_ | refine WC.exit ?_ | refine WC.block ?_ | refine WC.region ?_ | refine WC.regD (by exact rfl) ?_ | refine WC.label ?_ | refine WC.goto ?_ | refine WR.nil ?_ | refine Ends.seq ?_ | refine Ends.seq_ret ?_ | refine Ends.seq_exit ?_ | refine Ends.block ?_ | refine Ends.block_ret ?_ | refine Ends.block_exit ?_ | refine Ends.block_pass (by exact rfl) ?_ | refine Ends.mid_ret ?_ | refine Ends.mid_exit ?_ | refine Ends.loop_ret ?_ | refine Ends.loop_exit ?_ | refine WC.condT rfl ?_ | refine WC.condF rfl ?_ | (refine zw ?_; first | refine o1 rfl ?_ | (refine zf ?_; first | refine o2 rfl ?_ | refine o3 rfl ?_) | (refine za ?_; refine o4 rfl rfl ?_) | (refine ze ?_; refine p4 rfl rfl ?_) | (refine zg ?_; refine p5 rfl rfl ?_) | (refine zm ?_; refine p6 rfl rfl ?_) | (refine zn ?_; first | refine q1 rfl ?_ | refine q2 rfl ?_ | refine p1 rfl ?_ | refine p2 rfl ?_) | (refine zp ?_; first | refine q3 rfl rfl ?_ | refine q4 rfl rfl ?_) | (refine zl ?_; first | refine o5 rfl rfl ?_ | refine p3 rfl ?_) | (refine zk ?_; refine o7 rfl ?_) | (refine zi ?_; refine o8 rfl rfl rfl ?_) | (refine zj ?_; refine o9 rfl rfl rfl ?_) | (refine zc ?_; refine m1 ?_; intro _ _) | (refine zb ?_; first | (refine m2 rfl rfl ?_; intro _ _) | (refine m3 rfl ?_; intro _ _)) | refine WR.guardF rfl rfl ?_ | (refine WR.splitG (fun hg => ?_) (fun hg => ?_))) | (refine zs ?_; refine m4 rfl rfl ?_; intro _ _) | refine WR.guardF0 rfl ?_ | (refine WR.splitG (fun hg => ?_) (fun hg => ?_)))
    refine WR.call (by first | exact gN | exact gS rfl) rfl rfl (isHeight_fs _ _) ?_
    rintro _ _ ⟨rfl, rfl⟩
    repeat' (first | refine WC.seq ?_ | refine WC.skip ?_ | refine WC.ret ?_ | refine WC.exit ?_ | refine WC.block ?_ | refine WC.region ?_ | refine WC.regD (by exact rfl) ?_ | refine WC.label ?_ | refine WC.goto ?_ | refine WR.nil ?_ | refine Ends.seq ?_ | refine Ends.seq_ret ?_ | refine Ends.seq_exit ?_ | refine Ends.block ?_ | refine Ends.block_ret ?_ | refine Ends.block_exit ?_ | refine Ends.block_pass (by exact rfl) ?_ | refine Ends.mid_ret ?_ | refine Ends.mid_exit ?_ | refine Ends.loop_ret ?_ | refine Ends.loop_exit ?_ | refine WC.condT rfl ?_ | refine WC.condF rfl ?_ | (refine zw ?_; first | refine o1 rfl ?_ | (refine zf ?_; first | refine o2 rfl ?_ | refine o3 rfl ?_) | (refine za ?_; refine o4 rfl rfl ?_) | (refine ze ?_; refine p4 rfl rfl ?_) | (refine zg ?_; refine p5 rfl rfl ?_) | (refine zm ?_; refine p6 rfl rfl ?_) | (refine zn ?_; first | refine q1 rfl ?_ | refine q2 rfl ?_ | refine p1 rfl ?_ | refine p2 rfl ?_) | (refine zp ?_; first | refine q3 rfl rfl ?_ | refine q4 rfl rfl ?_) | (refine zl ?_; first | refine o5 rfl rfl ?_ | refine p3 rfl ?_) | (refine zk ?_; refine o7 rfl ?_) | (refine zi ?_; refine o8 rfl rfl rfl ?_) | (refine zj ?_; refine o9 rfl rfl rfl ?_) | (refine zc ?_; refine m1 ?_; intro _ _) | (refine zb ?_; first | (refine m2 rfl rfl ?_; intro _ _) | (refine m3 rfl ?_; intro _ _)) | refine WR.guardF rfl rfl ?_ | (refine WR.splitG (fun hg => ?_) (fun hg => ?_))) | (refine zs ?_; refine m4 rfl rfl ?_; intro _ _) | refine WR.guardF0 rfl ?_ | (refine WR.splitG (fun hg => ?_) (fun hg => ?_)))
    refine WC.condP rfl (fun h => ?_) (fun h => ?_)
    · have hl : levelE r c xs w = 1 := by simp only [levelE, he0, ne_eq, not_true_eq_false, if_false, h]
      repeat' (first | refine WC.seq ?_ | refine WC.skip ?_ | refine WC.ret ?_ | refine WC.exit ?_ | refine WC.block ?_ | refine WC.region ?_ | refine WC.regD (by exact rfl) ?_ | refine WC.label ?_ | refine WC.goto ?_ | refine WR.nil ?_ | refine Ends.seq ?_ | refine Ends.seq_ret ?_ | refine Ends.seq_exit ?_ | refine Ends.block ?_ | refine Ends.block_ret ?_ | refine Ends.block_exit ?_ | refine Ends.block_pass (by exact rfl) ?_ | refine Ends.mid_ret ?_ | refine Ends.mid_exit ?_ | refine Ends.loop_ret ?_ | refine Ends.loop_exit ?_ | refine WC.condT rfl ?_ | refine WC.condF rfl ?_ | (refine zw ?_; first | refine o1 rfl ?_ | (refine zf ?_; first | refine o2 rfl ?_ | refine o3 rfl ?_) | (refine za ?_; refine o4 rfl rfl ?_) | (refine ze ?_; refine p4 rfl rfl ?_) | (refine zg ?_; refine p5 rfl rfl ?_) | (refine zm ?_; refine p6 rfl rfl ?_) | (refine zn ?_; first | refine q1 rfl ?_ | refine q2 rfl ?_ | refine p1 rfl ?_ | refine p2 rfl ?_) | (refine zp ?_; first | refine q3 rfl rfl ?_ | refine q4 rfl rfl ?_) | (refine zl ?_; first | refine o5 rfl rfl ?_ | refine p3 rfl ?_) | (refine zk ?_; refine o7 rfl ?_) | (refine zi ?_; refine o8 rfl rfl rfl ?_) | (refine zj ?_; refine o9 rfl rfl rfl ?_) | (refine zc ?_; refine m1 ?_; intro _ _) | (refine zb ?_; first | (refine m2 rfl rfl ?_; intro _ _) | (refine m3 rfl ?_; intro _ _)) | refine WR.guardF rfl rfl ?_ | (refine WR.splitG (fun hg => ?_) (fun hg => ?_))) | (refine zs ?_; refine m4 rfl rfl ?_; intro _ _) | refine WR.guardF0 rfl ?_ | (refine WR.splitG (fun hg => ?_) (fun hg => ?_)))
      exact Ends.ret2 rfl rfl ⟨n2, by omega, .inl ⟨by rw [hl]; decide, by rw [hl], hH2.tail.tail⟩⟩
    · have hl : levelE r c xs w = 0 := by simp only [levelE, he0, ne_eq, not_true_eq_false, if_false, Decidable.not_not.1 h, and_self, if_true]
      repeat' (first | refine WC.seq ?_ | refine WC.skip ?_ | refine WC.ret ?_ | refine WC.exit ?_ | refine WC.block ?_ | refine WC.region ?_ | refine WC.regD (by exact rfl) ?_ | refine WC.label ?_ | refine WC.goto ?_ | refine WR.nil ?_ | refine Ends.seq ?_ | refine Ends.seq_ret ?_ | refine Ends.seq_exit ?_ | refine Ends.block ?_ | refine Ends.block_ret ?_ | refine Ends.block_exit ?_ | refine Ends.block_pass (by exact rfl) ?_ | refine Ends.mid_ret ?_ | refine Ends.mid_exit ?_ | refine Ends.loop_ret ?_ | refine Ends.loop_exit ?_ | refine WC.condT rfl ?_ | refine WC.condF rfl ?_ | (refine zw ?_; first | refine o1 rfl ?_ | (refine zf ?_; first | refine o2 rfl ?_ | refine o3 rfl ?_) | (refine za ?_; refine o4 rfl rfl ?_) | (refine ze ?_; refine p4 rfl rfl ?_) | (refine zg ?_; refine p5 rfl rfl ?_) | (refine zm ?_; refine p6 rfl rfl ?_) | (refine zn ?_; first | refine q1 rfl ?_ | refine q2 rfl ?_ | refine p1 rfl ?_ | refine p2 rfl ?_) | (refine zp ?_; first | refine q3 rfl rfl ?_ | refine q4 rfl rfl ?_) | (refine zl ?_; first | refine o5 rfl rfl ?_ | refine p3 rfl ?_) | (refine zk ?_; refine o7 rfl ?_) | (refine zi ?_; refine o8 rfl rfl rfl ?_) | (refine zj ?_; refine o9 rfl rfl rfl ?_) | (refine zc ?_; refine m1 ?_; intro _ _) | (refine zb ?_; first | (refine m2 rfl rfl ?_; intro _ _) | (refine m3 rfl ?_; intro _ _)) | refine WR.guardF rfl rfl ?_ | (refine WR.splitG (fun hg => ?_) (fun hg => ?_))) | (refine zs ?_; refine m4 rfl rfl ?_; intro _ _) | refine WR.guardF0 rfl ?_ | (refine WR.splitG (fun hg => ?_) (fun hg => ?_)))
      exact Ends.ret2 rfl rfl ⟨n2, by omega, .inr ⟨hl, b, rfl, hH2.sub (.cons_cons _ (List.sublist_cons_self _ _))⟩⟩

/-- The places that are bare. -/
def bareL (r : Nat) (ds : List Int) : List Nat := (List.range r).filter fun p => decide (ds.getD p 0 = 0)

structure BareR (r c : Int) (xs : List Int) (w : Int) (l : List Nat) : Prop where
  ex : ∃ best ds, Lowest c.toNat xs.length (padded xs) xs.length best ∧ Depths xs.length (padded xs) best w ds ∧ l = bareL xs.length ds

theorem level_ok {r c : Int} {xs : List Int} {w : Int} (h : levelE r c xs w = 0) : checkE r c xs = 0 ∧ 0 ≤ w ∧ w ≤ 30 := by
  unfold levelE at h
  split at h
  · exact absurd h (by assumption)
  · split at h
    · rename_i h1 h2; exact ⟨by omega, h2⟩
    · cases h

theorem filter_le {l : List Nat} {p q : Nat → Bool} (h : ∀ x ∈ l, p x = q x) : l.filter p = l.filter q := List.filter_congr h

theorem marked_of {ms : List Bool} {ds : List Int} {r : Nat} (hr : r ≤ 37) (h : ∀ p, p < 37 → ms.getD p false = if p < r then decide (ds.getD p 0 = 0) else false) : marked ms 37 = bareL r ds := by
  have e : List.range 37 = List.range r ++ List.range' r (37 - r) := by
    rw [List.range_eq_range', List.range_eq_range', show (37 : Nat) = r + (37 - r) by omega, ← List.range'_append_1]
    simp
  unfold marked bareL
  rw [e, List.filter_append]
  have h1 : (List.range' r (37 - r)).filter (fun p => ms.getD p false) = [] := by
    rw [List.filter_eq_nil_iff]
    intro p hp
    rw [List.mem_range'_1] at hp
    rw [h p (by omega), if_neg (by omega)]
    simp
  rw [h1, List.append_nil]
  exact List.filter_congr fun p hp => by rw [List.mem_range] at hp; rw [h p (by omega), if_pos hp]
end Go.Proofs.Ytbnppcgmbiajnaa.Eb
