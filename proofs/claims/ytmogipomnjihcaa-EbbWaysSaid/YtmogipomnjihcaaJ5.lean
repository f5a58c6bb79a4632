/- Texts of the law, joined. -/
import Derived.Test.YtmogipomnjihcaaJ3
import Derived.Test.YtmogipomnjihcaaJ4
namespace Go.Proofs.Ytmogipomnjihcaa.Eb
open Go Go.Abs Go.Low
set_option linter.unusedVariables false
set_option linter.unusedSimpArgs false

theorem ne4 : ∀ a b : Bool, pureRun C.c.P (binOp .neq 4 (.bool a) (.bool b)) = some (.bool (a != b)) := by
  intro a b
  cases a <;> cases b <;> kernel_rfl
attribute [local irreducible] gOK WS WC WR WD Ends FS YS OpV seqK blockK loopK midK retK rdK asgK rangeEnd sat Cell

theorem same_fs {M : HL} {n : Nat} {H : Heap} (hH : hasH M n H) {v u : Value} {xs : List Int} (hS : Sl M 1 v (ints xs)) (hU : Sl M 1 u (ints xs)) (hx : xs.length ≤ 100000) :
    FS C 21 [v, u] H (fun e H' => e = .bool true ∧ H' = H) := by
  refine FS.intro (pf := pf21) rfl rfl rfl ?_
  repeat' (first | refine zA ?_ | (refine zM ?_; intro _ _) | (apply Ws <;> intro hg))
  refine WR.op (by first | exact gN | exact gS rfl) rfl (OpV.lenSI rfl hS) ?_
  repeat' (first | refine zA ?_ | (refine zM ?_; intro _ _) | (apply Ws <;> intro hg))
  refine WR.op (by first | exact gN | exact gS rfl) rfl (OpV.lenSI rfl hU) ?_
  repeat' (first | refine zA ?_ | (refine zM ?_; intro _ _) | (apply Ws <;> intro hg))
  refine WC.condP rfl (fun hne => ?_) (fun hne => ?_)
  · exact absurd rfl hne
  repeat' (first | refine zA ?_ | (refine zM ?_; intro _ _) | (apply Ws <;> intro hg))
  refine WC.loop (fun k : Nat => [(0, v), (1, u), (5, .int .i64 (k : Int))]) (fun _ => []) (fun k H' => H' = H ∧ k ≤ xs.length) (fun k => xs.length - k) 0 (by repeat' (first | exact .nil | refine .cons rfl ?_)) rfl ⟨rfl, Nat.zero_le _⟩ ?_
  rintro k H' ⟨rfl, hk⟩
  repeat' (first | refine zA ?_ | (refine zM ?_; intro _ _) | (apply Ws <;> intro hg))
  refine WR.op (by first | exact gN | exact gS rfl) rfl (OpV.lenSI rfl hS) ?_
  repeat' (first | refine zA ?_ | (refine zM ?_; intro _ _) | (apply Ws <;> intro hg))
  refine WC.condP rfl (fun hlt => ?_) (fun hlt => ?_)
  · have hk' : k < xs.length := by omega
    repeat' (first | refine zA ?_ | (refine zM ?_; intro _ _) | (apply Ws <;> intro hg))
    refine WR.idxSI (by first | exact gN | exact gS rfl) rfl rfl hS rfl rfl hk' fun b o u hc => ?_
    repeat' (first | refine zA ?_ | (refine zM ?_; intro _ _) | (apply Ws <;> intro hg))
    refine WR.idxSI (by first | exact gN | exact gS rfl) rfl rfl hU rfl rfl hk' fun b2 o2 u2 hc2 => ?_
    repeat' (first | refine zA ?_ | (refine zM ?_; intro _ _) | (apply Ws <;> intro hg))
    refine WC.condP rfl (fun hq => ?_) (fun hq => ?_)
    · exact absurd rfl hq
    repeat' (first | refine zA ?_ | (refine zM ?_; intro _ _) | (apply Ws <;> intro hg))
    exact Ends.loop (k + 1) (by omega) (by repeat' (first | exact .nil | refine .cons rfl ?_)) rfl ⟨rfl, hk'⟩
  · repeat' (first | refine zA ?_ | (refine zM ?_; intro _ _) | (apply Ws <;> intro hg))
    exact Ends.ret1 rfl ⟨rfl, rfl⟩

theorem clos_fs {M : HL} {n : Nat} {H : Heap} (hH : hasH M n H) {rw : Int} {c bs bx : Nat} {v : Value} {xs : List Int} (hS : Sl M 1 v (ints xs)) (hc : 1 ≤ c ∧ c ≤ 6) (hcr : c ≤ xs.length) (hx : xs.length ≤ 36)
    (hms : (bs, .row 24 0 0 [.int .i64 rw, .int .i64 (c : Int), v]) ∈ M) {a b : Nat} (hmx : (bx, .row 3 0 0 [.int .i64 (a : Int)]) ∈ M) (ha : a < xs.length) (hb : b ≤ xs.length) :
    FS C 50 [.int .i64 (b : Int), .pointer (some ⟨bs, 0, some 0⟩), .pointer (some ⟨bx, 0, some 0⟩)] H (fun e H' => e = .bool (decide (b ∈ nbrs c xs.length a)) ∧ ∃ n', n ≤ n' ∧ hasH M n' H') := by
  refine FS.intro (pf := pf50) rfl rfl rfl ?_
  repeat' (first | refine zA ?_ | (refine zM ?_; intro _ _) | (apply Ws <;> intro hg))
  refine WR.call (by first | exact gN | exact gS rfl) rfl rfl (beside_fs hH hS hc hcr hx ha hb) ?_
  rintro _ H2 ⟨rfl, n2, hn2, hH2⟩
  repeat' (first | refine zA ?_ | (refine zM ?_; intro _ _) | (apply Ws <;> intro hg))
  exact Ends.ret1 rfl ⟨rfl, n2, hn2, hH2⟩

theorem some_fs {M : HL} {n : Nat} {H : Heap} (hH : hasH M n H) {rw : Int} {c bs bx : Nat} {v : Value} {xs : List Int} (hS : Sl M 1 v (ints xs)) (hc : 1 ≤ c ∧ c ≤ 6) (hcr : c ≤ xs.length) (hx : xs.length ≤ 36)
    (hms : (bs, .row 24 0 0 [.int .i64 rw, .int .i64 (c : Int), v]) ∈ M) {a : Nat} (hmx : (bx, .row 3 0 0 [.int .i64 (a : Int)]) ∈ M) (ha : a < xs.length)
    {vp : Value} {pl : List Nat} (hP : Sl M 1 vp (nodes pl)) (hpl : ∀ y ∈ pl, y < xs.length) (hp37 : pl.length ≤ 37) (hex : ∃ y ∈ pl, y ∈ nbrs c xs.length a) :
    FS C 49 [vp, .func (.func 50) #[] #[.pointer (some ⟨bs, 0, some 0⟩), .pointer (some ⟨bx, 0, some 0⟩)]] H (fun e H' => e = .bool true ∧ ∃ n', n ≤ n' ∧ hasH M n' H') := by
  have hll : (nodes pl).length = pl.length := by simp
  have hidx : FS C 87 [vp, .func (.func 50) #[] #[.pointer (some ⟨bs, 0, some 0⟩), .pointer (some ⟨bx, 0, some 0⟩)]] H (fun e H' => ∃ k : Nat, e = .int .i64 (k : Int) ∧ k ≤ 37 ∧ ∃ n', n ≤ n' ∧ hasH M n' H') := by
    refine FS.intro (pf := pf87) rfl rfl rfl ?_
    repeat' (first | refine zA ?_ | (refine zM ?_; intro _ _) | (apply Ws <;> intro hg))
    refine WR.op (by first | exact gN | exact gS rfl) rfl (OpV.lenS rfl hP) ?_
    rw [hll]
    repeat' (first | refine zA ?_ | (refine zM ?_; intro _ _) | (apply Ws <;> intro hg))
    refine WC.loop (fun a : Nat × Nat => [(0, vp), (1, .func (.func 50) #[] #[.pointer (some ⟨bs, 0, some 0⟩), .pointer (some ⟨bx, 0, some 0⟩)]), (7, .int .i64 (pl.length : Int)), (8, .int .i64 (a.1 : Int))]) (fun _ => [])
      (fun s H => s.1 ≤ pl.length ∧ (∀ j, j < s.1 → ∀ y, pl[j]? = some y → y ∉ nbrs c xs.length a) ∧ n ≤ s.2 ∧ hasH M s.2 H) (fun s => pl.length - s.1) (0, n) (by repeat' (first | exact .nil | refine .cons rfl ?_)) rfl ⟨Nat.zero_le _, fun j hj => absurd hj (Nat.not_lt_zero _), Nat.le_refl _, hH⟩ ?_
    rintro ⟨k, n4⟩ H4 ⟨hk, hno, hn4, hH4⟩
    simp only at hk hno hn4 hH4
    dsimp only
    repeat' (first | refine zA ?_ | (refine zM ?_; intro _ _) | (apply Ws <;> intro hg))
    refine WC.condP rfl (fun hlt => ?_) (fun hlt => ?_)
    · have hk' : k < pl.length := by omega
      obtain ⟨y, hy⟩ : ∃ y, pl[k]? = some y := ⟨pl[k], List.getElem?_eq_getElem hk'⟩
      have hyr := hpl y (List.mem_of_getElem? hy)
      repeat' (first | refine zA ?_ | (refine zM ?_; intro _ _) | (apply Ws <;> intro hg))
      refine WR.idxSl (by first | exact gN | exact gS rfl) rfl rfl hP rfl rfl (c := .int .i64 (y : Int)) (by simp [hy]) fun _ _ _ hc1 => ?_
      repeat' (first | refine zA ?_ | (refine zM ?_; intro _ _) | (apply Ws <;> intro hg))
      refine WR.callV (va := []) (vb := [.pointer (some ⟨bs, 0, some 0⟩), .pointer (some ⟨bx, 0, some 0⟩)]) (by first | exact gN | exact gS rfl) rfl rfl rfl (clos_fs hH4 hS hc hcr hx hms hmx ha (Nat.le_of_lt hyr)) ?_
      rintro _ H5 ⟨rfl, n5, hn5, hH5⟩
      repeat' (first | refine zA ?_ | (refine zM ?_; intro _ _) | (apply Ws <;> intro hg))
      refine WC.condP rfl (fun hin => ?_) (fun hin => ?_)
      · repeat' (first | refine zA ?_ | (refine zM ?_; intro _ _) | (apply Ws <;> intro hg))
        exact Ends.ret1 rfl ⟨k, rfl, by omega, n5, by omega, hH5⟩
      · repeat' (first | refine zA ?_ | (refine zM ?_; intro _ _) | (apply Ws <;> intro hg))
        refine Ends.loop (k + 1, n5) (by simp only; omega) (by repeat' (first | exact .nil | refine .cons rfl ?_)) rfl ⟨hk', fun j hj z hz => ?_, by simp only; omega, hH5⟩
        rcases Nat.lt_or_ge j k with h2 | h2
        · exact hno j h2 z hz
        · have : j = k := by simp only at hj; omega
          subst this
          rw [hy] at hz; cases hz; exact hin
    exfalso
    obtain ⟨y, hy, hyn⟩ := hex
    obtain ⟨j, hj, he⟩ := List.mem_iff_getElem.1 hy
    exact hno j (by omega) y (by rw [List.getElem?_eq_getElem hj, he]) hyn
  refine FS.intro (pf := pf49) rfl rfl rfl ?_
  repeat' (first | refine zA ?_ | (refine zM ?_; intro _ _) | (apply Ws <;> intro hg))
  refine WR.call (by first | exact gN | exact gS rfl) rfl rfl hidx ?_
  rintro _ H2 ⟨k, rfl, hk, n2, hn2, hH2⟩
  repeat' (first | refine zA ?_ | (refine zM ?_; intro _ _) | (apply Ws <;> intro hg))
  refine Ends.ret1 rfl ⟨?_, n2, hn2, hH2⟩
  simp; done
end Go.Proofs.Ytmogipomnjihcaa.Eb

namespace Go.Proofs.Ytmogipomnjihcaa.Eb
open Go Go.Abs Go.Low
set_option linter.unusedVariables false
set_option linter.unusedSimpArgs false
attribute [local irreducible] gOK WS WC WR WD Ends FS YS OpV seqK blockK loopK midK retK rdK asgK rangeEnd sat Cell

def WayLL (r c : Int) (xs : List Int) (p : Int) (L : List Nat) : Prop := (placeE r c xs p ≠ 0 ∧ L = []) ∨ (placeE r c xs p = 0 ∧ WayR r c xs p.toNat L)
def BasLL (r c : Int) (xs : List Int) (p : Int) (L : List Nat) : Prop := (placeE r c xs p ≠ 0 ∧ L = []) ∨ (placeE r c xs p = 0 ∧ BasR r c xs p.toNat L)

theorem WayLL.unique {r c : Int} {xs : List Int} {L L' : List Nat} {p : Int} (h : WayLL r c xs p L) (h' : WayLL r c xs p L') : L = L' := by
  rcases h with ⟨h0, rfl⟩ | ⟨h0, hw⟩ <;> rcases h' with ⟨k0, rfl⟩ | ⟨k0, kw⟩
  · rfl
  · exact absurd k0 h0
  · exact absurd h0 k0
  · exact hw.unique (place_ok h0).1 kw
theorem BasLL.unique {r c : Int} {xs : List Int} {L L' : List Nat} {p : Int} (h : BasLL r c xs p L) (h' : BasLL r c xs p L') : L = L' := by
  rcases h with ⟨h0, rfl⟩ | ⟨h0, hw⟩ <;> rcases h' with ⟨k0, rfl⟩ | ⟨k0, kw⟩
  · rfl
  · exact absurd k0 h0
  · exact absurd h0 k0
  · exact hw.unique (place_ok h0).1 kw

section
variable {M : HL} {n : Nat} {H : Heap} {r c : Int} {v : Value} {xs : List Int}
theorem way_len {p : Int} {L : List Nat} (h : WayLL r c xs p L) : L.length ≤ 1000 := by
  rcases h with ⟨_, rfl⟩ | ⟨h0, best, b, hl, hd, rfl⟩
  · simp
  · obtain ⟨hck, hp0, hp1⟩ := place_ok h0
    obtain ⟨hh, hc6, hr36⟩ := HS_of hck
    obtain ⟨k, hk, hkr, _⟩ := dist_at hh hc6 (p := p.toNat) (by omega) hl hd
    rw [wayL_len, hk]; omega
theorem bas_len {p : Int} {L : List Nat} (h : BasLL r c xs p L) : L.length ≤ 1000 := by
  rcases h with ⟨_, rfl⟩ | ⟨h0, best, hl, hs, hm⟩
  · simp
  · obtain ⟨hck, hp0, hp1⟩ := place_ok h0
    obtain ⟨hh, hc6, hr36⟩ := HS_of hck
    have := nodup_len xs.length L (hs.imp (fun h => Nat.ne_of_lt h)) (fun y hy => ((hm y).1 hy).lt (by omega))
    omega
theorem WayA (hH : hasH M n H) (hS : Sl M 1 v (ints xs)) (hx : xs.length ≤ 1000) (p : Int) :
    FS C 31 [.agg #[.int .i64 r, .int .i64 c, v], .int .i64 p] H (fun e H' => ∃ n' Mx v' L, e = .tuple #[v', .int .i64 (placeE r c xs p)] ∧ Sl (Mx ++ M) 1 v' (nodes L) ∧ hasH (Mx ++ M) n' H' ∧ WayLL r c xs p L) := by
  refine FS.mono (Way_fs hH hS hx p) ?_
  rintro e H' ⟨n', hn, ⟨h0, rfl, h2⟩ | ⟨h0, v', Mx, l, rfl, hO, h2, hl⟩⟩
  · exact ⟨n', [], _, [], rfl, .nil 0, h2, .inl ⟨h0, rfl⟩⟩
  · exact ⟨n', Mx, v', _, by rw [h0], hO.sl _, h2, .inr ⟨h0, hl⟩⟩
theorem WayB (hH : hasH M n H) (hS : Sl M 1 v (ints xs)) (hx : xs.length ≤ 1000) (p : Int) {L : List Nat} (hL : WayLL r c xs p L) :
    FS C 32 [.agg #[.int .i64 r, .int .i64 c, v], .int .i64 p] H (fun e H' => ∃ n' Mx v', e = .tuple #[v', .int .i64 (placeE r c xs p)] ∧ Sl (Mx ++ M) 1 v' (nodes L) ∧ hasH (Mx ++ M) n' H') := by
  refine FS.mono (WayRef_fs hH hS hx p (fun h0 => by rcases hL with ⟨h1, _⟩ | ⟨_, best, b, hl, hd, _⟩; exact absurd h0 h1; exact ⟨best, b, hl, hd⟩)) ?_
  rintro e H' ⟨n', hn, ⟨h0, rfl, h2⟩ | ⟨h0, v', Mx, l, rfl, hO, h2, hl⟩⟩
  · rw [hL.unique (.inl ⟨h0, rfl⟩)]
    exact ⟨n', [], _, rfl, .nil 0, h2⟩
  · rw [hL.unique (.inr ⟨h0, hl⟩)]
    exact ⟨n', Mx, v', by rw [h0], hO.sl _, h2⟩
theorem BasinA (hH : hasH M n H) (hS : Sl M 1 v (ints xs)) (hx : xs.length ≤ 1000) (p : Int) :
    FS C 33 [.agg #[.int .i64 r, .int .i64 c, v], .int .i64 p] H (fun e H' => ∃ n' Mx v' L, e = .tuple #[v', .int .i64 (placeE r c xs p)] ∧ Sl (Mx ++ M) 1 v' (nodes L) ∧ hasH (Mx ++ M) n' H' ∧ BasLL r c xs p L) := by
  refine FS.mono (Basin_fs hH hS hx p) ?_
  rintro e H' ⟨n', hn, ⟨h0, rfl, h2⟩ | ⟨h0, v', Mx, l, rfl, hO, h2, hl⟩⟩
  · exact ⟨n', [], _, [], rfl, .nil 0, h2, .inl ⟨h0, rfl⟩⟩
  · exact ⟨n', Mx, v', _, by rw [h0], hO.sl _, h2, .inr ⟨h0, hl⟩⟩
theorem BasinB (hH : hasH M n H) (hS : Sl M 1 v (ints xs)) (hx : xs.length ≤ 1000) (p : Int) {L : List Nat} (hL : BasLL r c xs p L) :
    FS C 34 [.agg #[.int .i64 r, .int .i64 c, v], .int .i64 p] H (fun e H' => ∃ n' Mx v', e = .tuple #[v', .int .i64 (placeE r c xs p)] ∧ Sl (Mx ++ M) 1 v' (nodes L) ∧ hasH (Mx ++ M) n' H') := by
  refine FS.mono (BasinRef_fs hH hS hx p (fun h0 => by rcases hL with ⟨h1, _⟩ | ⟨_, best, hl, _⟩; exact absurd h0 h1; exact ⟨best, hl⟩)) ?_
  rintro e H' ⟨n', hn, ⟨h0, rfl, h2⟩ | ⟨h0, v', Mx, l, rfl, hO, h2, hl⟩⟩
  · rw [hL.unique (.inl ⟨h0, rfl⟩)]
    exact ⟨n', [], _, rfl, .nil 0, h2⟩
  · rw [hL.unique (.inr ⟨h0, hl⟩)]
    exact ⟨n', Mx, v', by rw [h0], hO.sl _, h2⟩
end

set_option maxHeartbeats 2000000 in
theorem EbbWays_fs {M : HL} {n : Nat} {H : Heap} (hH : hasH M n H) {r c p h : Int} {v vp : Value} {xs ps : List Int} (hS : Sl M 1 v (ints xs)) (hP : Sl M 1 vp (ints ps)) :
    FS C 5 [.agg #[.int .i64 r, .int .i64 c, v], .int .i64 p, vp, .int .i64 h] H (fun e H' => e = .bool true) := by
  have h1 := hS.one_
  refine FS.intro (pf := pf5) rfl rfl rfl ?_
  repeat' (first | refine zA ?_ | (refine zM ?_; intro _ _) | (apply Ws <;> intro hg))
  rename_i H1 hH1
  have hSv : Sl ((n, .row 24 0 0 [.int .i64 r, .int .i64 c, v]) :: M) 1 v (ints xs) := hS.cons
  have hPv : Sl ((n, .row 24 0 0 [.int .i64 r, .int .i64 c, v]) :: M) 1 vp (ints ps) := hP.cons
  refine WR.call (by first | exact gN | exact gS rfl) rfl rfl (large_fs hH1 hSv) ?_
  rintro _ _ ⟨rfl, rfl⟩
  repeat' (first | refine zA ?_ | (refine zM ?_; intro _ _) | (apply Ws <;> intro hg))
  · refine WR.call (by first | exact gN | exact gS rfl) rfl rfl (FS.works (C := C) (R := fun v H' => v = .bool true) rfl) ?_
    rintro _ _ rfl
    repeat' (first | refine zA ?_ | (refine zM ?_; intro _ _) | (apply Ws <;> intro hg))
    exact Ends.ret1 rfl rfl
  have hx : xs.length ≤ 1000 := by omega
  refine WR.call (by first | exact gN | exact gS rfl) rfl rfl (large_fs hH1 hPv) ?_
  rintro _ _ ⟨rfl, rfl⟩
  repeat' (first | refine zA ?_ | (refine zM ?_; intro _ _) | (apply Ws <;> intro hg))
  refine WC.condP rfl (fun hlw => ?_) (fun hlw => ?_)
  · repeat' (first | refine zA ?_ | (refine zM ?_; intro _ _) | (apply Ws <;> intro hg))
    refine WR.call (by first | exact gN | exact gS rfl) rfl rfl (FS.works (C := C) (R := fun v H' => v = .bool true) rfl) ?_
    rintro _ _ rfl
    repeat' (first | refine zA ?_ | (refine zM ?_; intro _ _) | (apply Ws <;> intro hg))
    exact Ends.ret1 rfl rfl
  have hpl : ps.length ≤ 1000 := by omega
  repeat' (first | refine zA ?_ | (refine zM ?_; intro _ _) | (apply Ws <;> intro hg))
  rename_i hH2
  refine WR.storeAll (by first | exact gN | exact gS rfl) hH2 rfl rfl (ls := [.int .i64 r, .int .i64 c, v]) (by rfl) rfl (by first | exact .here | exact .there .here | exact .there (.there .here) | exact .there (.there (.there .here)) | exact .there (.there (.there (.there .here))) | exact .there (.there (.there (.there (.there .here))))) (by simp only [List.all_cons, h1, List.all_nil, Bool.and_true]; rfl) (by rfl) fun H3 hH3 => ?_
  clear hH2 hH1
  have hm1 : (n, Ch.row 24 0 0 [.int .i64 r, .int .i64 c, v]) ∈ (n + 1, Ch.row 27 0 0 [.int .i64 r, .int .i64 c, v]) :: (n, Ch.row 24 0 0 [.int .i64 r, .int .i64 c, v]) :: M := by simp
  have hm2 : (n + 1, Ch.row 27 0 0 [.int .i64 r, .int .i64 c, v]) ∈ (n + 1, Ch.row 27 0 0 [.int .i64 r, .int .i64 c, v]) :: (n, Ch.row 24 0 0 [.int .i64 r, .int .i64 c, v]) :: M := by simp
  have hSv2 := hSv.cons (p := (n + 1, Ch.row 27 0 0 [.int .i64 r, .int .i64 c, v]))
  have hPv2 := hPv.cons (p := (n + 1, Ch.row 27 0 0 [.int .i64 r, .int .i64 c, v]))
  generalize (n + 1, Ch.row 27 0 0 [.int .i64 r, .int .i64 c, v]) :: (n, Ch.row 24 0 0 [.int .i64 r, .int .i64 c, v]) :: M = T at hH3 hm1 hm2 hSv2 hPv2
  clear hSv hPv
  repeat' (first | refine zA ?_ | (refine zM ?_; intro _ _) | (apply Ws <;> intro hg))
  refine WR.call (by first | exact gN | exact gS rfl) rfl rfl (WayA hH3 hSv2 hx p) ?_
  rintro _ H4 ⟨n4, M4, v4, L, rfl, hA, hH4, hL⟩
  have hLl := way_len hL
  rw [nodesR] at hA
  clear hH3
  replace hm1 : _ ∈ M4 ++ T := List.mem_append_right _ hm1
  replace hm2 : _ ∈ M4 ++ T := List.mem_append_right _ hm2
  replace hSv2 : Sl (M4 ++ T) 1 v (ints xs) := hSv2.mono (fun q hq => List.mem_append_right _ hq)
  replace hPv2 : Sl (M4 ++ T) 1 vp (ints ps) := hPv2.mono (fun q hq => List.mem_append_right _ hq)
  generalize M4 ++ T = T4 at hH4 hm1 hm2 hSv2 hPv2 hA
  repeat' (first | refine zA ?_ | (refine zM ?_; intro _ _) | (apply Ws <;> intro hg))
  refine WR.call (by first | exact gN | exact gS rfl) rfl rfl (WayB hH4 hSv2 hx p hL) ?_
  rintro _ H5 ⟨n5, M5, v5, rfl, hB, hH5⟩
  rw [nodesR] at hB
  clear hH4
  replace hm1 : _ ∈ M5 ++ T4 := List.mem_append_right _ hm1
  replace hm2 : _ ∈ M5 ++ T4 := List.mem_append_right _ hm2
  replace hSv2 : Sl (M5 ++ T4) 1 v (ints xs) := hSv2.mono (fun q hq => List.mem_append_right _ hq)
  replace hPv2 : Sl (M5 ++ T4) 1 vp (ints ps) := hPv2.mono (fun q hq => List.mem_append_right _ hq)
  replace hA : Sl (M5 ++ T4) 1 v4 _ := hA.mono (fun q hq => List.mem_append_right _ hq)
  generalize M5 ++ T4 = T5 at hH5 hm1 hm2 hSv2 hPv2 hA hB
  repeat' (first | refine zA ?_ | (refine zM ?_; intro _ _) | (apply Ws <;> intro hg))
  refine WR.call (by first | exact gN | exact gS rfl) rfl rfl (BasinA hH5 hSv2 hx p) ?_
  rintro _ H6 ⟨n6, M6, v6, L2, rfl, hA2, hH6, hL2⟩
  have hLl2 := bas_len hL2
  rw [nodesR] at hA2
  clear hH5
  replace hm1 : _ ∈ M6 ++ T5 := List.mem_append_right _ hm1
  replace hm2 : _ ∈ M6 ++ T5 := List.mem_append_right _ hm2
  replace hSv2 : Sl (M6 ++ T5) 1 v (ints xs) := hSv2.mono (fun q hq => List.mem_append_right _ hq)
  replace hPv2 : Sl (M6 ++ T5) 1 vp (ints ps) := hPv2.mono (fun q hq => List.mem_append_right _ hq)
  replace hA : Sl (M6 ++ T5) 1 v4 _ := hA.mono (fun q hq => List.mem_append_right _ hq)
  replace hB : Sl (M6 ++ T5) 1 v5 _ := hB.mono (fun q hq => List.mem_append_right _ hq)
  generalize M6 ++ T5 = T6 at hH6 hm1 hm2 hSv2 hPv2 hA hB hA2
  repeat' (first | refine zA ?_ | (refine zM ?_; intro _ _) | (apply Ws <;> intro hg))
  refine WR.call (by first | exact gN | exact gS rfl) rfl rfl (BasinB hH6 hSv2 hx p hL2) ?_
  rintro _ H7 ⟨n7, M7, v7, rfl, hB2, hH7⟩
  rw [nodesR] at hB2
  clear hH6
  replace hm1 : _ ∈ M7 ++ T6 := List.mem_append_right _ hm1
  replace hm2 : _ ∈ M7 ++ T6 := List.mem_append_right _ hm2
  replace hSv2 : Sl (M7 ++ T6) 1 v (ints xs) := hSv2.mono (fun q hq => List.mem_append_right _ hq)
  replace hPv2 : Sl (M7 ++ T6) 1 vp (ints ps) := hPv2.mono (fun q hq => List.mem_append_right _ hq)
  replace hA : Sl (M7 ++ T6) 1 v4 _ := hA.mono (fun q hq => List.mem_append_right _ hq)
  replace hB : Sl (M7 ++ T6) 1 v5 _ := hB.mono (fun q hq => List.mem_append_right _ hq)
  replace hA2 : Sl (M7 ++ T6) 1 v6 _ := hA2.mono (fun q hq => List.mem_append_right _ hq)
  generalize M7 ++ T6 = T7 at hH7 hm1 hm2 hSv2 hPv2 hA hB hA2 hB2
  have hid : ∀ a : Int, decide (a = a) = true := by simp
  repeat' (first | refine zA ?_ | (refine zM ?_; intro _ _) | (apply Ws <;> intro hg))
  refine WC.regionD ?_
  (repeat' (first | refine d1 rfl ?_ | refine d2 rfl ?_ | refine d3 rfl ?_))
  refine WD.call (by first | exact gN | exact gS rfl) rfl rfl (same_fs hH7 hA hB (by simp; omega)) ?_
  rintro _ _ ⟨rfl, rfl⟩
  refine ⟨rfl, ?_⟩
  (repeat' (first | refine d1 rfl ?_ | refine d2 rfl ?_ | refine d3 rfl ?_))
  rw [hid]
  refine WD.op (by first | exact gN | exact gS rfl) rfl (OpV.pickT rfl rfl) rfl (stands_nil _ _) ?_
  (repeat' (first | refine d1 rfl ?_ | refine d2 rfl ?_ | refine d3 rfl ?_))
  refine WD.call (by first | exact gN | exact gS rfl) rfl rfl (same_fs hH7 hA2 hB2 (by simp; omega)) ?_
  rintro _ _ ⟨rfl, rfl⟩
  refine ⟨rfl, ?_⟩
  refine WD.op (by first | exact gN | exact gS rfl) rfl (OpV.pickT rfl rfl) rfl (stands_nil _ _) ?_
  (repeat' (first | refine d1 rfl ?_ | refine d2 rfl ?_ | refine d3 rfl ?_))
  rw [hid]
  refine WD.op (by first | exact gN | exact gS rfl) rfl (OpV.pickT rfl rfl) rfl (stands_nil _ _) ?_
  (repeat' (first | refine d1 rfl ?_ | refine d2 rfl ?_ | refine d3 rfl ?_))
  refine WD.loadN (by first | exact gN | exact gS rfl) rfl rfl (hH7.readN (k := 3) hm1 (.row _ _ _ _) (Nat.zero_le _) (by simp)) ?_
  (repeat' (first | refine d1 rfl ?_ | refine d2 rfl ?_ | refine d3 rfl ?_))
  refine WD.loadN (by first | exact gN | exact gS rfl) rfl rfl (hH7.readN (k := 3) hm2 (.row _ _ _ _) (Nat.zero_le _) (by simp)) ?_
  (repeat' (first | refine d1 rfl ?_ | refine d2 rfl ?_ | refine d3 rfl ?_))
  refine WD.call (by first | exact gN | exact gS rfl) rfl rfl (ProvesG_fs hH7 hSv2 hPv2 hx hpl) ?_
  rintro _ H8 ⟨a1, rfl, hp1, n8, hn8, hH8⟩
  refine ⟨stands_cons (.inr (holdsN_at (hH8.readN (k := 3) hm2 (.row _ _ _ _) (Nat.zero_le _) (by simp)) (by show sameL [Value.int .i64 r, .int .i64 c, v] [.int .i64 r, .int .i64 c, v] = true; simp [sameL, same_int, hSv2.same]))) (stands_cons (.inl rfl) stands_nil'), ?_⟩
  refine WD.toWR rfl ?_
  refine WR.call (by first | exact gN | exact gS rfl) rfl rfl (ProvesRef_fs hH8 hSv2 hPv2 hx hpl) ?_
  rintro _ H9 ⟨a2, rfl, hp2⟩
  have ha : a1 = a2 := hp1.unique hp2
  subst ha
  repeat' (first | refine zA ?_ | (refine zM ?_; intro _ _) | (apply Ws <;> intro hg))
  · refine WR.call (by first | exact gN | exact gS rfl) rfl rfl (FS.works (C := C) (R := fun v H' => v = .bool true) rfl) ?_
    rintro _ _ rfl
    repeat' (first | refine zA ?_ | (refine zM ?_; intro _ _) | (apply Ws <;> intro hg))
    exact Ends.ret1 rfl rfl
  · exact absurd rfl hg
end Go.Proofs.Ytmogipomnjihcaa.Eb
