/- Texts of the law, joined. -/
import Derived.Test.YtmogipomnjihcaaJ3
namespace Go.Proofs.Ytmogipomnjihcaa.Eb
open Go Go.Abs Go.Low
set_option linter.unusedVariables false
set_option linter.unusedSimpArgs false
attribute [local irreducible] gOK WS WC WR WD Ends FS YS OpV seqK blockK loopK midK retK rdK asgK rangeEnd sat Cell

theorem lists_fs {M : HL} {n : Nat} {H : Heap} (hH : hasH M n H) {v u : Value} {vs us : List Value} {ls : List (List Nat)} (hS : Sl M 1 v vs) (hU : Sl M 1 u us) (hv : Rows2 M vs ls) (hu : Rows2 M us ls)
    (hx : ls.length ≤ 100000) (hl : ∀ l ∈ ls, l.length ≤ 100000) : FS C 28 [v, u] H (fun e H' => e = .bool true ∧ H' = H) := by
  refine FS.intro (pf := pf28) rfl rfl rfl ?_
  repeat' (first | refine zA ?_ | (refine zM ?_; intro _ _) | (apply Ws <;> intro hg))
  refine WR.op (by first | exact gN | exact gS rfl) rfl (OpV.lenS rfl hS) ?_
  rw [hv.1]
  repeat' (first | refine zA ?_ | (refine zM ?_; intro _ _) | (apply Ws <;> intro hg))
  refine WR.op (by first | exact gN | exact gS rfl) rfl (OpV.lenS rfl hU) ?_
  rw [hu.1]
  repeat' (first | refine zA ?_ | (refine zM ?_; intro _ _) | (apply Ws <;> intro hg))
  refine WC.condP rfl (fun hne => ?_) (fun hne => ?_)
  · exact absurd rfl hne
  repeat' (first | refine zA ?_ | (refine zM ?_; intro _ _) | (apply Ws <;> intro hg))
  refine WC.loop (fun k : Nat => [(0, v), (1, u), (5, .int .i64 (k : Int))]) (fun _ => []) (fun k H' => H' = H ∧ k ≤ ls.length) (fun k => ls.length - k) 0 (by repeat' (first | exact .nil | refine .cons rfl ?_)) rfl ⟨rfl, Nat.zero_le _⟩ ?_
  rintro k H' ⟨rfl, hk⟩
  repeat' (first | refine zA ?_ | (refine zM ?_; intro _ _) | (apply Ws <;> intro hg))
  refine WR.op (by first | exact gN | exact gS rfl) rfl (OpV.lenS rfl hS) ?_
  rw [hv.1]
  repeat' (first | refine zA ?_ | (refine zM ?_; intro _ _) | (apply Ws <;> intro hg))
  refine WC.condP rfl (fun hlt => ?_) (fun hlt => ?_)
  · have hk' : k < ls.length := by omega
    have hk1 : k < vs.length := by rw [hv.1]; exact hk'
    have hk2 : k < us.length := by rw [hu.1]; exact hk'
    have hS1 := hv.2 k _ _ (List.getElem?_eq_getElem hk1) (List.getElem?_eq_getElem hk')
    have hS2 := hu.2 k _ _ (List.getElem?_eq_getElem hk2) (List.getElem?_eq_getElem hk')
    have hlk := hl _ (List.getElem_mem hk')
    rw [nodesR] at hS1 hS2
    repeat' (first | refine zA ?_ | (refine zM ?_; intro _ _) | (apply Ws <;> intro hg))
    refine WR.idxSl (by first | exact gN | exact gS rfl) rfl rfl hS rfl rfl (List.getElem?_eq_getElem hk1) fun _ _ _ hc1 => ?_
    repeat' (first | refine zA ?_ | (refine zM ?_; intro _ _) | (apply Ws <;> intro hg))
    refine WR.idxSl (by first | exact gN | exact gS rfl) rfl rfl hU rfl rfl (List.getElem?_eq_getElem hk2) fun _ _ _ hc2 => ?_
    repeat' (first | refine zA ?_ | (refine zM ?_; intro _ _) | (apply Ws <;> intro hg))
    refine WR.call (by first | exact gN | exact gS rfl) rfl rfl (same_fs hH hS1 hS2 (by simpa using hlk)) ?_
    rintro _ _ ⟨rfl, rfl⟩
    repeat' (first | refine zA ?_ | (refine zM ?_; intro _ _) | (apply Ws <;> intro hg))
    exact Ends.loop (k + 1) (by omega) (by repeat' (first | exact .nil | refine .cons rfl ?_)) rfl ⟨rfl, hk'⟩
  · repeat' (first | refine zA ?_ | (refine zM ?_; intro _ _) | (apply Ws <;> intro hg))
    exact Ends.ret1 rfl ⟨rfl, rfl⟩

theorem holdsN_at {H : Heap} {i : Nat} {a : Addr} {k : Nat} {l : List Value} (h : H.readN a k = some l) (hs : sameL l l = true) : holds H ⟨i, a, some k, .agg l.toArray⟩ = true := by
  simp only [holds, h]; exact hs

/-! What both must answer. -/

def SillsL (r c : Int) (xs : List Int) (L : List Int) : Prop := (checkE r c xs ≠ 0 ∧ L = []) ∨ (checkE r c xs = 0 ∧ ∃ best, Lowest c.toNat xs.length (padded xs) xs.length best ∧ L = best.take xs.length)
def DepthsL (r c : Int) (xs : List Int) (w : Int) (L : List Int) : Prop :=
  (levelE r c xs w ≠ 0 ∧ L = []) ∨ (levelE r c xs w = 0 ∧ ∃ best ds, Lowest c.toNat xs.length (padded xs) xs.length best ∧ Depths xs.length (padded xs) best w ds ∧ L = ds.take xs.length)
def BareLL (r c : Int) (xs : List Int) (w : Int) (L : List Nat) : Prop := (levelE r c xs w ≠ 0 ∧ L = []) ∨ (levelE r c xs w = 0 ∧ BareR r c xs w L)
def PoolsL (r c : Int) (xs : List Int) (w : Int) (P : List (List Nat)) : Prop :=
  (levelE r c xs w ≠ 0 ∧ P = []) ∨ (levelE r c xs w = 0 ∧ ∃ K best ds, KeptR xs.length best ds w K ∧ Lowest c.toNat xs.length (padded xs) xs.length best ∧ Depths xs.length (padded xs) best w ds ∧ P = poolsM c.toNat xs.length K xs.length)

theorem DepthsU {r : Nat} {hs b ds ds' : List Int} {w : Int} (h : Depths r hs b w ds) (h' : Depths r hs b w ds') : ds = ds' := list_ext37 h.len h'.len fun y hy => by rw [h.at_ y hy, h'.at_ y hy]

theorem SillsL.unique {r c : Int} {xs L L' : List Int} (h : SillsL r c xs L) (h' : SillsL r c xs L') : L = L' := by
  rcases h with ⟨h0, rfl⟩ | ⟨h0, b, hb, rfl⟩ <;> rcases h' with ⟨k0, rfl⟩ | ⟨k0, b', hb', rfl⟩
  · rfl
  · exact absurd k0 h0
  · exact absurd h0 k0
  · rw [hb.unique (HS_of h0).1 (Nat.le_refl _) hb']
theorem DepthsL.unique {r c : Int} {xs L L' : List Int} {w : Int} (h : DepthsL r c xs w L) (h' : DepthsL r c xs w L') : L = L' := by
  rcases h with ⟨h0, rfl⟩ | ⟨h0, b, d, hb, hd, rfl⟩ <;> rcases h' with ⟨k0, rfl⟩ | ⟨k0, b', d', hb', hd', rfl⟩
  · rfl
  · exact absurd k0 h0
  · exact absurd h0 k0
  · have := hb.unique (HS_of (level_ok h0).1).1 (Nat.le_refl _) hb'
    subst this
    rw [DepthsU hd hd']
theorem BareLL.unique {r c : Int} {xs : List Int} {L L' : List Nat} {w : Int} (h : BareLL r c xs w L) (h' : BareLL r c xs w L') : L = L' := by
  rcases h with ⟨h0, rfl⟩ | ⟨h0, b, d, hb, hd, rfl⟩ <;> rcases h' with ⟨k0, rfl⟩ | ⟨k0, b', d', hb', hd', rfl⟩
  · rfl
  · exact absurd k0 h0
  · exact absurd h0 k0
  · have := hb.unique (HS_of (level_ok h0).1).1 (Nat.le_refl _) hb'
    subst this
    rw [DepthsU hd hd']
theorem PoolsL.unique {r c : Int} {xs : List Int} {L L' : List (List Nat)} {w : Int} (h : PoolsL r c xs w L) (h' : PoolsL r c xs w L') : L = L' := by
  rcases h with ⟨h0, rfl⟩ | ⟨h0, K, b, d, hK, hb, hd, rfl⟩ <;> rcases h' with ⟨k0, rfl⟩ | ⟨k0, K', b', d', hK', hb', hd', rfl⟩
  · rfl
  · exact absurd k0 h0
  · exact absurd h0 k0
  · have := hb.unique (HS_of (level_ok h0).1).1 (Nat.le_refl _) hb'
    subst this
    have := DepthsU hd hd'
    subst this
    rw [hK.unique hK']

section
variable {M : HL} {n : Nat} {H : Heap} {r c : Int} {v : Value} {xs : List Int}
theorem SillsA (hH : hasH M n H) (hS : Sl M 1 v (ints xs)) (hx : xs.length ≤ 1000) :
    FS C 17 [.agg #[.int .i64 r, .int .i64 c, v]] H (fun e H' => ∃ n' Mx v' L, e = .tuple #[v', .int .i64 (checkE r c xs)] ∧ Sl (Mx ++ M) 1 v' (ints L) ∧ L.length ≤ 1000 ∧ hasH (Mx ++ M) n' H' ∧ SillsL r c xs L) := by
  refine FS.mono (Sills_fs hH hS hx) ?_
  rintro e H' ⟨n', hn, ⟨h0, rfl, h2⟩ | ⟨h0, v', Mx, best, rfl, hO, h2, hl⟩⟩
  · exact ⟨n', [], _, [], rfl, .nil 0, by simp, h2, .inl ⟨h0, rfl⟩⟩
  · exact ⟨n', Mx, v', _, by rw [h0], hO.sl _, by simp; omega, h2, .inr ⟨h0, best, hl, rfl⟩⟩
theorem SillsB (hH : hasH M n H) (hS : Sl M 1 v (ints xs)) (hx : xs.length ≤ 1000) {L : List Int} (hL : SillsL r c xs L) :
    FS C 18 [.agg #[.int .i64 r, .int .i64 c, v]] H (fun e H' => ∃ n' Mx v', e = .tuple #[v', .int .i64 (checkE r c xs)] ∧ Sl (Mx ++ M) 1 v' (ints L) ∧ hasH (Mx ++ M) n' H') := by
  refine FS.mono (SillsR_fs hH hS hx (fun h0 => by rcases hL with ⟨h1, _⟩ | ⟨_, b, hb, _⟩; exact absurd h0 h1; exact ⟨b, hb⟩)) ?_
  rintro e H' ⟨n', hn, ⟨h0, rfl, h2⟩ | ⟨h0, v', Mx, best, rfl, hO, h2, hl⟩⟩
  · rw [hL.unique (.inl ⟨h0, rfl⟩)]
    exact ⟨n', [], _, rfl, .nil 0, h2⟩
  · rw [hL.unique (.inr ⟨h0, best, hl, rfl⟩)]
    exact ⟨n', Mx, v', by rw [h0], hO.sl _, h2⟩
theorem DepthsA (hH : hasH M n H) (hS : Sl M 1 v (ints xs)) (hx : xs.length ≤ 1000) (w : Int) :
    FS C 19 [.agg #[.int .i64 r, .int .i64 c, v], .int .i64 w] H (fun e H' => ∃ n' Mx v' L, e = .tuple #[v', .int .i64 (levelE r c xs w)] ∧ Sl (Mx ++ M) 1 v' (ints L) ∧ L.length ≤ 1000 ∧ hasH (Mx ++ M) n' H' ∧ DepthsL r c xs w L) := by
  refine FS.mono (Depths_fs hH hS hx w) ?_
  rintro e H' ⟨n', hn, ⟨h0, rfl, h2⟩ | ⟨h0, v', Mx, best, ds, rfl, hO, h2, hl, hd⟩⟩
  · exact ⟨n', [], _, [], rfl, .nil 0, by simp, h2, .inl ⟨h0, rfl⟩⟩
  · exact ⟨n', Mx, v', _, by rw [h0], hO.sl _, by simp; omega, h2, .inr ⟨h0, best, ds, hl, hd, rfl⟩⟩
theorem DepthsB (hH : hasH M n H) (hS : Sl M 1 v (ints xs)) (hx : xs.length ≤ 1000) (w : Int) {L : List Int} (hL : DepthsL r c xs w L) :
    FS C 20 [.agg #[.int .i64 r, .int .i64 c, v], .int .i64 w] H (fun e H' => ∃ n' Mx v', e = .tuple #[v', .int .i64 (levelE r c xs w)] ∧ Sl (Mx ++ M) 1 v' (ints L) ∧ hasH (Mx ++ M) n' H') := by
  refine FS.mono (DepthsR_fs hH hS hx w (fun h0 => by rcases hL with ⟨h1, _⟩ | ⟨_, b, d, hb, hd, _⟩; exact absurd h0 h1; exact ⟨b, d, hb, hd⟩)) ?_
  rintro e H' ⟨n', hn, ⟨h0, rfl, h2⟩ | ⟨h0, v', Mx, best, ds, rfl, hO, h2, hl, hd⟩⟩
  · rw [hL.unique (.inl ⟨h0, rfl⟩)]
    exact ⟨n', [], _, rfl, .nil 0, h2⟩
  · rw [hL.unique (.inr ⟨h0, best, ds, hl, hd, rfl⟩)]
    exact ⟨n', Mx, v', by rw [h0], hO.sl _, h2⟩
theorem bare_len {w : Int} {L : List Nat} (hx : xs.length ≤ 1000) (h : BareLL r c xs w L) : L.length ≤ 1000 := by
  rcases h with ⟨_, rfl⟩ | ⟨_, b, d, _, _, rfl⟩
  · simp
  · have := List.length_filter_le (fun p => decide (d.getD p 0 = 0)) (List.range xs.length)
    simp only [List.length_range] at this
    exact Nat.le_trans this hx
theorem BareA (hH : hasH M n H) (hS : Sl M 1 v (ints xs)) (hx : xs.length ≤ 1000) (w : Int) :
    FS C 24 [.agg #[.int .i64 r, .int .i64 c, v], .int .i64 w] H (fun e H' => ∃ n' Mx v' L, e = .tuple #[v', .int .i64 (levelE r c xs w)] ∧ Sl (Mx ++ M) 1 v' (nodes L) ∧ hasH (Mx ++ M) n' H' ∧ BareLL r c xs w L) := by
  refine FS.mono (Bare_fs hH hS hx w) ?_
  rintro e H' ⟨n', hn, ⟨h0, rfl, h2⟩ | ⟨h0, v', Mx, l, rfl, hO, h2, hl⟩⟩
  · exact ⟨n', [], _, [], rfl, .nil 0, h2, .inl ⟨h0, rfl⟩⟩
  · exact ⟨n', Mx, v', _, by rw [h0], hO.sl _, h2, .inr ⟨h0, hl⟩⟩
theorem BareB (hH : hasH M n H) (hS : Sl M 1 v (ints xs)) (hx : xs.length ≤ 1000) (w : Int) {L : List Nat} (hL : BareLL r c xs w L) :
    FS C 25 [.agg #[.int .i64 r, .int .i64 c, v], .int .i64 w] H (fun e H' => ∃ n' Mx v', e = .tuple #[v', .int .i64 (levelE r c xs w)] ∧ Sl (Mx ++ M) 1 v' (nodes L) ∧ hasH (Mx ++ M) n' H') := by
  refine FS.mono (BareRef_fs hH hS hx w (fun h0 => by rcases hL with ⟨h1, _⟩ | ⟨_, b, d, hb, hd, _⟩; exact absurd h0 h1; exact ⟨b, d, hb, hd⟩)) ?_
  rintro e H' ⟨n', hn, ⟨h0, rfl, h2⟩ | ⟨h0, v', Mx, l, rfl, hO, h2, hl⟩⟩
  · rw [hL.unique (.inl ⟨h0, rfl⟩)]
    exact ⟨n', [], _, rfl, .nil 0, h2⟩
  · rw [hL.unique (.inr ⟨h0, hl⟩)]
    exact ⟨n', Mx, v', by rw [h0], hO.sl _, h2⟩
theorem pools_len2 {w : Int} {L : List (List Nat)} (hx : xs.length ≤ 1000) (h : PoolsL r c xs w L) : L.length ≤ 100000 ∧ ∀ l ∈ L, l.length ≤ 100000 := by
  rcases h with ⟨_, rfl⟩ | ⟨_, K, b, d, _, _, _, rfl⟩
  · simp
  · refine ⟨Nat.le_trans (pools_len _ _ _ _) (by omega), fun l hl => ?_⟩
    rw [poolsM, List.mem_map] at hl
    obtain ⟨f, _, rfl⟩ := hl
    have := List.length_filter_le (fun y => @decide (RM c.toNat xs.length K f y) (Classical.propDecidable _)) (List.range xs.length)
    rw [List.length_range] at this
    exact Nat.le_trans this (by omega)
theorem PoolsA (hH : hasH M n H) (hS : Sl M 1 v (ints xs)) (hx : xs.length ≤ 1000) (w : Int) :
    FS C 26 [.agg #[.int .i64 r, .int .i64 c, v], .int .i64 w] H (fun e H' => ∃ n' Mx v' vs L, e = .tuple #[v', .int .i64 (levelE r c xs w)] ∧ Sl (Mx ++ M) 1 v' vs ∧ Rows2 (Mx ++ M) vs L ∧ hasH (Mx ++ M) n' H' ∧ PoolsL r c xs w L) := by
  refine FS.mono (Pools_fs hH hS hx w) ?_
  rintro e H' ⟨n', hn, ⟨h0, rfl, h2⟩ | ⟨h0, v', Mo, Mp, vs, K, best, ds, rfl, hO, hr, h2, hK, hl, hd⟩⟩
  · exact ⟨n', [], _, [], [], rfl, .nil 0, ⟨rfl, fun i u l hu => by cases hu⟩, h2, .inl ⟨h0, rfl⟩⟩
  · refine ⟨n', Mo ++ Mp, v', vs, _, by rw [h0], ?_, hr.mono (fun p hp => by simp [hp]), by rw [List.append_assoc]; exact h2, .inr ⟨h0, K, best, ds, hK, hl, hd, rfl⟩⟩
    rw [List.append_assoc]; exact hO.sl _
theorem PoolsB (hH : hasH M n H) (hS : Sl M 1 v (ints xs)) (hx : xs.length ≤ 1000) (w : Int) {L : List (List Nat)} (hL : PoolsL r c xs w L) :
    FS C 27 [.agg #[.int .i64 r, .int .i64 c, v], .int .i64 w] H (fun e H' => ∃ n' Mx v' vs, e = .tuple #[v', .int .i64 (levelE r c xs w)] ∧ Sl (Mx ++ M) 1 v' vs ∧ Rows2 (Mx ++ M) vs L ∧ hasH (Mx ++ M) n' H') := by
  refine FS.mono (PoolsR_fs hH hS hx w (fun h0 => by rcases hL with ⟨h1, _⟩ | ⟨_, K, b, d, hK, hb, hd, _⟩; exact absurd h0 h1; exact ⟨K, b, d, hK, hb, hd⟩)) ?_
  rintro e H' ⟨n', hn, ⟨h0, rfl, h2⟩ | ⟨h0, v', Mo, Mp, vs, K, best, ds, rfl, hO, hr, h2, hK, hl, hd⟩⟩
  · rw [hL.unique (.inl ⟨h0, rfl⟩)]
    exact ⟨n', [], _, [], rfl, .nil 0, ⟨rfl, fun i u l hu => by cases hu⟩, h2⟩
  · rw [hL.unique (.inr ⟨h0, K, best, ds, hK, hl, hd, rfl⟩)]
    refine ⟨n', Mo ++ Mp, v', vs, by rw [h0], ?_, hr.mono (fun p hp => by simp [hp]), by rw [List.append_assoc]; exact h2⟩
    rw [List.append_assoc]; exact hO.sl _
end
end Go.Proofs.Ytmogipomnjihcaa.Eb

namespace Go.Proofs.Ytmogipomnjihcaa.Eb
open Go Go.Abs Go.Low
set_option linter.unusedVariables false
set_option linter.unusedSimpArgs false
attribute [local irreducible] gOK WS WC WR WD Ends FS YS OpV seqK blockK loopK midK retK rdK asgK rangeEnd sat Cell

set_option maxHeartbeats 2000000 in
theorem EbbFalls_fs {M : HL} {n : Nat} {H : Heap} (hH : hasH M n H) {r c w : Int} {v : Value} {xs : List Int} (hS : Sl M 1 v (ints xs)) :
    FS C 3 [.agg #[.int .i64 r, .int .i64 c, v], .int .i64 w] H (fun e H' => e = .bool true) := by
  have h1 := hS.one_
  refine FS.intro (pf := pf3) rfl rfl rfl ?_
  repeat' (first | refine zA ?_ | (refine zM ?_; intro _ _) | (apply Ws <;> intro hg))
  rename_i H1 hH1
  have hSv : Sl ((n, .row 24 0 0 [.int .i64 r, .int .i64 c, v]) :: M) 1 v (ints xs) := hS.cons
  refine WR.call (by first | exact gN | exact gS rfl) rfl rfl (large_fs hH1 hSv) ?_
  rintro _ _ ⟨rfl, rfl⟩
  repeat' (first | refine zA ?_ | (refine zM ?_; intro _ _) | (apply Ws <;> intro hg))
  refine WC.condP rfl (fun hlw => ?_) (fun hlw => ?_)
  · repeat' (first | refine zA ?_ | (refine zM ?_; intro _ _) | (apply Ws <;> intro hg))
    refine WR.call (by first | exact gN | exact gS rfl) rfl rfl (FS.works (C := C) (R := fun v H' => v = .bool true) rfl) ?_
    rintro _ _ rfl
    repeat' (first | refine zA ?_ | (refine zM ?_; intro _ _) | (apply Ws <;> intro hg))
    exact Ends.ret1 rfl rfl
  have hx : xs.length ≤ 1000 := by omega
  repeat' (first | refine zA ?_ | (refine zM ?_; intro _ _) | (apply Ws <;> intro hg))
  rename_i hH2
  refine WR.storeAll (by first | exact gN | exact gS rfl) hH2 rfl rfl (ls := [.int .i64 r, .int .i64 c, v]) (by rfl) rfl (by first | exact .here | exact .there .here | exact .there (.there .here) | exact .there (.there (.there .here)) | exact .there (.there (.there (.there .here))) | exact .there (.there (.there (.there (.there .here))))) (by simp only [List.all_cons, h1, List.all_nil, Bool.and_true]; rfl) (by rfl) fun H3 hH3 => ?_
  clear hH2 hH1
  have hm1 : (n, Ch.row 24 0 0 [.int .i64 r, .int .i64 c, v]) ∈ (n + 1, Ch.row 27 0 0 [.int .i64 r, .int .i64 c, v]) :: (n, Ch.row 24 0 0 [.int .i64 r, .int .i64 c, v]) :: M := by simp
  have hm2 : (n + 1, Ch.row 27 0 0 [.int .i64 r, .int .i64 c, v]) ∈ (n + 1, Ch.row 27 0 0 [.int .i64 r, .int .i64 c, v]) :: (n, Ch.row 24 0 0 [.int .i64 r, .int .i64 c, v]) :: M := by simp
  have hSv2 := hSv.cons (p := (n + 1, Ch.row 27 0 0 [.int .i64 r, .int .i64 c, v]))
  generalize (n + 1, Ch.row 27 0 0 [.int .i64 r, .int .i64 c, v]) :: (n, Ch.row 24 0 0 [.int .i64 r, .int .i64 c, v]) :: M = T at hH3 hm1 hm2 hSv2
  clear hSv
  repeat' (first | refine zA ?_ | (refine zM ?_; intro _ _) | (apply Ws <;> intro hg))
  refine WR.call (by first | exact gN | exact gS rfl) rfl rfl (SillsA hH3 hSv2 hx) ?_
  rintro _ H4 ⟨n4, M4, v4, L, rfl, hA, hLl, hH4, hL⟩
  clear hH3
  replace hm1 : _ ∈ M4 ++ T := List.mem_append_right _ hm1
  replace hm2 : _ ∈ M4 ++ T := List.mem_append_right _ hm2
  replace hSv2 : Sl (M4 ++ T) 1 v (ints xs) := hSv2.mono (fun q hq => List.mem_append_right _ hq)
  generalize M4 ++ T = T4 at hH4 hm1 hm2 hSv2 hA
  repeat' (first | refine zA ?_ | (refine zM ?_; intro _ _) | (apply Ws <;> intro hg))
  refine WR.call (by first | exact gN | exact gS rfl) rfl rfl (SillsB hH4 hSv2 hx hL) ?_
  rintro _ H5 ⟨n5, M5, v5, rfl, hB, hH5⟩
  clear hH4
  replace hm1 : _ ∈ M5 ++ T4 := List.mem_append_right _ hm1
  replace hm2 : _ ∈ M5 ++ T4 := List.mem_append_right _ hm2
  replace hSv2 : Sl (M5 ++ T4) 1 v (ints xs) := hSv2.mono (fun q hq => List.mem_append_right _ hq)
  replace hA : Sl (M5 ++ T4) 1 v4 (ints L) := hA.mono (fun q hq => List.mem_append_right _ hq)
  generalize M5 ++ T4 = T5 at hH5 hm1 hm2 hSv2 hA hB
  repeat' (first | refine zA ?_ | (refine zM ?_; intro _ _) | (apply Ws <;> intro hg))
  refine WR.call (by first | exact gN | exact gS rfl) rfl rfl (DepthsA hH5 hSv2 hx w) ?_
  rintro _ H6 ⟨n6, M6, v6, L2, rfl, hA2, hLl2, hH6, hL2⟩
  clear hH5
  replace hm1 : _ ∈ M6 ++ T5 := List.mem_append_right _ hm1
  replace hm2 : _ ∈ M6 ++ T5 := List.mem_append_right _ hm2
  replace hSv2 : Sl (M6 ++ T5) 1 v (ints xs) := hSv2.mono (fun q hq => List.mem_append_right _ hq)
  replace hA : Sl (M6 ++ T5) 1 v4 (ints L) := hA.mono (fun q hq => List.mem_append_right _ hq)
  replace hB : Sl (M6 ++ T5) 1 v5 (ints L) := hB.mono (fun q hq => List.mem_append_right _ hq)
  generalize M6 ++ T5 = T6 at hH6 hm1 hm2 hSv2 hA hB hA2
  repeat' (first | refine zA ?_ | (refine zM ?_; intro _ _) | (apply Ws <;> intro hg))
  refine WR.call (by first | exact gN | exact gS rfl) rfl rfl (DepthsB hH6 hSv2 hx w hL2) ?_
  rintro _ H7 ⟨n7, M7, v7, rfl, hB2, hH7⟩
  clear hH6
  replace hm1 : _ ∈ M7 ++ T6 := List.mem_append_right _ hm1
  replace hm2 : _ ∈ M7 ++ T6 := List.mem_append_right _ hm2
  replace hSv2 : Sl (M7 ++ T6) 1 v (ints xs) := hSv2.mono (fun q hq => List.mem_append_right _ hq)
  replace hA : Sl (M7 ++ T6) 1 v4 (ints L) := hA.mono (fun q hq => List.mem_append_right _ hq)
  replace hB : Sl (M7 ++ T6) 1 v5 (ints L) := hB.mono (fun q hq => List.mem_append_right _ hq)
  replace hA2 : Sl (M7 ++ T6) 1 v6 (ints L2) := hA2.mono (fun q hq => List.mem_append_right _ hq)
  generalize M7 ++ T6 = T7 at hH7 hm1 hm2 hSv2 hA hB hA2 hB2
  have hne : ∀ a : Int, decide (a ≠ a) = false := by simp
  repeat' (first | refine zA ?_ | (refine zM ?_; intro _ _) | (apply Ws <;> intro hg))
  refine WC.regionD ?_
  (repeat' (first | refine d1 rfl ?_ | refine d2 rfl ?_ | refine d3 rfl ?_))
  refine WD.call (by first | exact gN | exact gS rfl) rfl rfl (same_fs hH7 hA hB (by omega)) ?_
  rintro _ _ ⟨rfl, rfl⟩
  refine ⟨rfl, ?_⟩
  refine WD.op (by first | exact gN | exact gS rfl) rfl (OpV.notT rfl) rfl (stands_nil _ _) ?_
  (repeat' (first | refine d1 rfl ?_ | refine d2 rfl ?_ | refine d3 rfl ?_))
  rw [hne]
  refine WD.op (by first | exact gN | exact gS rfl) rfl (OpV.pickF rfl rfl) rfl (stands_nil _ _) ?_
  (repeat' (first | refine d1 rfl ?_ | refine d2 rfl ?_ | refine d3 rfl ?_))
  refine WD.call (by first | exact gN | exact gS rfl) rfl rfl (same_fs hH7 hA2 hB2 (by omega)) ?_
  rintro _ _ ⟨rfl, rfl⟩
  refine ⟨rfl, ?_⟩
  refine WD.op (by first | exact gN | exact gS rfl) rfl (OpV.notT rfl) rfl (stands_nil _ _) ?_
  refine WD.op (by first | exact gN | exact gS rfl) rfl (OpV.pickF rfl rfl) rfl (stands_nil _ _) ?_
  (repeat' (first | refine d1 rfl ?_ | refine d2 rfl ?_ | refine d3 rfl ?_))
  rw [hne]
  refine WD.op (by first | exact gN | exact gS rfl) rfl (OpV.pickF rfl rfl) rfl (stands_nil _ _) ?_
  (repeat' (first | refine d1 rfl ?_ | refine d2 rfl ?_ | refine d3 rfl ?_))
  refine WD.loadN (by first | exact gN | exact gS rfl) rfl rfl (hH7.readN (k := 3) hm1 (.row _ _ _ _) (Nat.zero_le _) (by simp)) ?_
  refine WD.loadN (by first | exact gN | exact gS rfl) rfl rfl (hH7.readN (k := 3) hm2 (.row _ _ _ _) (Nat.zero_le _) (by simp)) ?_
  refine WD.call (by first | exact gN | exact gS rfl) rfl rfl (Check_fs hH7 hSv2 hx) ?_
  rintro _ H8 ⟨rfl, n8, hn8, hH8⟩
  refine ⟨stands_cons (.inr (holdsN_at (hH8.readN (k := 3) hm2 (.row _ _ _ _) (Nat.zero_le _) (by simp)) (by show sameL [Value.int .i64 r, .int .i64 c, v] [.int .i64 r, .int .i64 c, v] = true; simp [sameL, same_int, hSv2.same]))) (stands_cons (.inl rfl) stands_nil'), ?_⟩
  refine WD.toWR rfl ?_
  refine WR.call (by first | exact gN | exact gS rfl) rfl rfl (CheckR_fs hH8 hSv2 hx) ?_
  rintro _ H9 ⟨rfl, n9, hn9, hH9⟩
  clear hH7 hH8 hA hB hA2 hB2
  repeat' (first | refine zA ?_ | (refine zM ?_; intro _ _) | (apply Ws <;> intro hg))
  refine WC.condP rfl (fun hq => ?_) (fun hq => ?_)
  · exact absurd rfl hq
  clear hq
  repeat' (first | refine zA ?_ | (refine zM ?_; intro _ _) | (apply Ws <;> intro hg))
  refine WR.call (by first | exact gN | exact gS rfl) rfl rfl (BareA hH9 hSv2 hx w) ?_
  rintro _ H4 ⟨n4, M4, v4, L3, rfl, hA, hH4, hL3⟩
  clear hH9
  have hb1 := bare_len hx hL3
  rw [nodesR] at hA
  replace hm1 : _ ∈ M4 ++ T7 := List.mem_append_right _ hm1
  replace hm2 : _ ∈ M4 ++ T7 := List.mem_append_right _ hm2
  replace hSv2 : Sl (M4 ++ T7) 1 v (ints xs) := hSv2.mono (fun q hq => List.mem_append_right _ hq)
  generalize M4 ++ T7 = T8 at hH4 hm1 hm2 hSv2 hA
  repeat' (first | refine zA ?_ | (refine zM ?_; intro _ _) | (apply Ws <;> intro hg))
  refine WR.call (by first | exact gN | exact gS rfl) rfl rfl (BareB hH4 hSv2 hx w hL3) ?_
  rintro _ H5 ⟨n5, M5, v5, rfl, hB, hH5⟩
  clear hH4
  rw [nodesR] at hB
  replace hm1 : _ ∈ M5 ++ T8 := List.mem_append_right _ hm1
  replace hm2 : _ ∈ M5 ++ T8 := List.mem_append_right _ hm2
  replace hSv2 : Sl (M5 ++ T8) 1 v (ints xs) := hSv2.mono (fun q hq => List.mem_append_right _ hq)
  replace hA : Sl (M5 ++ T8) 1 v4 _ := hA.mono (fun q hq => List.mem_append_right _ hq)
  generalize M5 ++ T8 = T9 at hH5 hm1 hm2 hSv2 hA hB
  repeat' (first | refine zA ?_ | (refine zM ?_; intro _ _) | (apply Ws <;> intro hg))
  refine WR.call (by first | exact gN | exact gS rfl) rfl rfl (PoolsA hH5 hSv2 hx w) ?_
  rintro _ H6 ⟨n6, M6, v6, vs, PL, rfl, hP, hPr, hH6, hPL⟩
  clear hH5
  have hpl := pools_len2 hx hPL
  replace hm1 : _ ∈ M6 ++ T9 := List.mem_append_right _ hm1
  replace hm2 : _ ∈ M6 ++ T9 := List.mem_append_right _ hm2
  replace hSv2 : Sl (M6 ++ T9) 1 v (ints xs) := hSv2.mono (fun q hq => List.mem_append_right _ hq)
  replace hA : Sl (M6 ++ T9) 1 v4 _ := hA.mono (fun q hq => List.mem_append_right _ hq)
  replace hB : Sl (M6 ++ T9) 1 v5 _ := hB.mono (fun q hq => List.mem_append_right _ hq)
  generalize M6 ++ T9 = T10 at hH6 hm1 hm2 hSv2 hA hB hP hPr
  repeat' (first | refine zA ?_ | (refine zM ?_; intro _ _) | (apply Ws <;> intro hg))
  refine WR.call (by first | exact gN | exact gS rfl) rfl rfl (PoolsB hH6 hSv2 hx w hPL) ?_
  rintro _ H7 ⟨n7, M7, v7, us, rfl, hQ, hQr, hH7⟩
  clear hH6
  replace hA : Sl (M7 ++ T10) 1 v4 _ := hA.mono (fun q hq => List.mem_append_right _ hq)
  replace hB : Sl (M7 ++ T10) 1 v5 _ := hB.mono (fun q hq => List.mem_append_right _ hq)
  replace hP : Sl (M7 ++ T10) 1 v6 vs := hP.mono (fun q hq => List.mem_append_right _ hq)
  replace hPr : Rows2 (M7 ++ T10) vs PL := hPr.mono (fun q hq => List.mem_append_right _ hq)
  generalize M7 ++ T10 = T11 at hH7 hA hB hP hPr hQ hQr
  repeat' (first | refine zA ?_ | (refine zM ?_; intro _ _) | (apply Ws <;> intro hg))
  refine WR.call (by first | exact gN | exact gS rfl) rfl rfl (same_fs hH7 hA hB (by simp; omega)) ?_
  rintro _ _ ⟨rfl, rfl⟩
  repeat' (first | refine zA ?_ | (refine zM ?_; intro _ _) | (apply Ws <;> intro hg))
  · refine WR.call (by first | exact gN | exact gS rfl) rfl rfl (lists_fs hH7 hP hQ hPr hQr hpl.1 hpl.2) ?_
    rintro _ _ ⟨rfl, rfl⟩
    repeat' (first | refine zA ?_ | (refine zM ?_; intro _ _) | (apply Ws <;> intro hg))
    · refine WR.call (by first | exact gN | exact gS rfl) rfl rfl (FS.works (C := C) (R := fun v H' => v = .bool true) rfl) ?_
      rintro _ _ rfl
      repeat' (first | refine zA ?_ | (refine zM ?_; intro _ _) | (apply Ws <;> intro hg))
      exact Ends.ret1 rfl rfl
    · exact absurd rfl hg
  · exact absurd rfl hg
end Go.Proofs.Ytmogipomnjihcaa.Eb
