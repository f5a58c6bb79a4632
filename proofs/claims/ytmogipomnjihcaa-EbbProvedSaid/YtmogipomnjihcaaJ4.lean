/- Texts of the law, joined. -/
import Derived.Test.YtmogipomnjihcaaJ3
import Derived.Test.YtmogipomnjihcaaSymX
namespace Go.Proofs.Ytmogipomnjihcaa.Eb
open Go Go.Abs Go.Low
set_option linter.unusedVariables false
set_option linter.unusedSimpArgs false

theorem ne4 : ∀ a b : Bool, pureRun C.c.P (binOp .neq 4 (.bool a) (.bool b)) = some (.bool (a != b)) := by
  intro a b
  cases a <;> cases b <;> kernel_rfl
attribute [local irreducible] gOK WS WC WR WD Ends FS YS OpV seqK blockK loopK midK retK rdK asgK rangeEnd sat Cell

def WayLL (r c : Int) (xs : List Int) (p : Int) (L : List Nat) : Prop := (placeE r c xs p ≠ 0 ∧ L = []) ∨ (placeE r c xs p = 0 ∧ WayR r c xs p.toNat L)
def BasLL (r c : Int) (xs : List Int) (p : Int) (L : List Nat) : Prop := (placeE r c xs p ≠ 0 ∧ L = []) ∨ (placeE r c xs p = 0 ∧ BasR r c xs p.toNat L)

section
variable {M : HL} {n : Nat} {H : Heap} {r c : Int} {v : Value} {xs : List Int}
theorem bas_len {p : Int} {L : List Nat} (h : BasLL r c xs p L) : L.length ≤ 1000 := by
  rcases h with ⟨_, rfl⟩ | ⟨h0, best, hl, hs, hm⟩
  · simp
  · obtain ⟨hck, hp0, hp1⟩ := place_ok h0
    obtain ⟨hh, hc6, hr36⟩ := HS_of hck
    have := nodup_len xs.length L (hs.imp (fun h => Nat.ne_of_lt h)) (fun y hy => ((hm y).1 hy).lt (by omega))
    omega
theorem WayA (hH : hasH M n H) (hS : Sl M 1 v (ints xs)) (hx : xs.length ≤ 1000) (p : Int) :
    FS C 31 [.agg #[.int .i64 r, .int .i64 c, v], .int .i64 p] H (fun e H' => ∃ n' Mx v' L, e = .tuple #[v', .int .i64 (placeE r c xs p)] ∧ Sl (Mx ++ M) 1 v' (nodes L) ∧ hasH (Mx ++ M) n' H' ∧ WayLL r c xs p L) := by
  refine FS.mono (Way_fs hH hS hx p) ?_
  rintro e H' ⟨n', hn, ⟨h0, rfl, h2⟩ | ⟨h0, v', Mx, l, rfl, hO, h2, hl⟩⟩
  · exact ⟨n', [], _, [], rfl, .nil 0, h2, .inl ⟨h0, rfl⟩⟩
  · exact ⟨n', Mx, v', _, by rw [h0], hO.sl _, h2, .inr ⟨h0, hl⟩⟩
theorem BasinA (hH : hasH M n H) (hS : Sl M 1 v (ints xs)) (hx : xs.length ≤ 1000) (p : Int) :
    FS C 33 [.agg #[.int .i64 r, .int .i64 c, v], .int .i64 p] H (fun e H' => ∃ n' Mx v' L, e = .tuple #[v', .int .i64 (placeE r c xs p)] ∧ Sl (Mx ++ M) 1 v' (nodes L) ∧ hasH (Mx ++ M) n' H' ∧ BasLL r c xs p L) := by
  refine FS.mono (Basin_fs hH hS hx p) ?_
  rintro e H' ⟨n', hn, ⟨h0, rfl, h2⟩ | ⟨h0, v', Mx, l, rfl, hO, h2, hl⟩⟩
  · exact ⟨n', [], _, [], rfl, .nil 0, h2, .inl ⟨h0, rfl⟩⟩
  · exact ⟨n', Mx, v', _, by rw [h0], hO.sl _, h2, .inr ⟨h0, hl⟩⟩
end
end Go.Proofs.Ytmogipomnjihcaa.Eb

namespace Go.Proofs.Ytmogipomnjihcaa.Eb
open Go Go.Abs Go.Low
set_option linter.unusedVariables false
set_option linter.unusedSimpArgs false
attribute [local irreducible] gOK WS WC WR WD Ends FS YS OpV seqK blockK loopK midK retK rdK asgK rangeEnd sat Cell

/-- What is known of a way: each place, and where it leads. -/
structure WayOk (c r : Nat) (hs : List Int) (h : Int) (l : List Nat) : Prop where
  lt : ∀ i, i < l.length → l.getD i 0 < r ∧ hs.getD (l.getD i 0) 0 ≤ h
  next : ∀ i, i + 1 < l.length → l.getD (i + 1) 0 ∈ nbrs c r (l.getD i 0)
  last : ∀ i, i + 1 = l.length → r ∈ nbrs c r (l.getD i 0)

section
variable {c r : Nat} {hs : List Int} {h : Int} (hh : HS c r hs) (hc6 : c ≤ 6) {b : List Int} (D : Dist c r hs h b)
include hh hc6 D

theorem way_ok : ∀ (k p : Nat), p ≤ r → b.getD p 0 = (k : Int) → k ≤ r → WayOk c r hs h (wayL c r b k p)
  | 0, p, _, _, _ => ⟨fun i hi => absurd hi (by simp [wayL]), fun i hi => absurd hi (by simp [wayL]), fun i hi => by simp [wayL] at hi⟩
  | k + 1, p, hp, hk, hr => by
    have h36 := hh.r36
    obtain ⟨h1, h2, h3, _, h5⟩ := next_ok hh hc6 D hp hk (by omega)
    have ih := way_ok k _ h2 h3 (by omega)
    have hpr : p < r := by
      rcases Nat.lt_or_ge p r with h6 | h6
      · exact h6
      · have : p = r := by omega
        subst this; rw [D.root] at hk; omega
    refine ⟨fun i hi => ?_, fun i hi => ?_, fun i hi => ?_⟩
    · cases i with
      | zero => simpa [wayL] using ⟨hpr, h5⟩
      | succ i => simpa [wayL] using ih.lt i (by simpa [wayL] using hi)
    · cases i with
      | zero =>
        cases k with
        | zero => simp [wayL] at hi
        | succ k => simpa [wayL] using h1
      | succ i => simpa [wayL] using ih.next i (by simpa [wayL] using hi)
    · cases i with
      | zero =>
        have hk0 : k = 0 := by simp [wayL, wayL_len] at hi; omega
        subst hk0
        have : nextN c r b p = r := by
          rcases D.at_ hh h2 with h6 | ⟨j, h6, h7, _⟩
          · omega
          · have : j = 0 := by omega
            subst this; exact Dk.zero_ h7
        rw [this] at h1
        simpa [wayL] using h1
      | succ i => simpa [wayL] using ih.last i (by simpa [wayL] using hi)
end

/-- A way of which all places are at most so high leads back from the river. -/
theorem WayOk.reach {c r : Nat} {hs : List Int} {h t : Int} {l : List Nat} (hh : HS c r hs) (hc6 : c ≤ 6) (w : WayOk c r hs h l) (h0 : hs.getD r 0 = 0) (ht : 0 ≤ t) (hm : ∀ i, i < l.length → hs.getD (l.getD i 0) 0 ≤ t) :
    ∀ (j i : Nat), i + j + 1 = l.length → Go.Low.Reach c r hs r t (l.getD i 0)
  | 0, i, hi => .step (.start (by omega)) (nbrs_symm ⟨hh.c1, hc6⟩ hh.cr (Nat.le_of_lt (w.lt i (by omega)).1) (w.last i (by omega))) (hm i (by omega))
  | j + 1, i, hi => .step (WayOk.reach hh hc6 w h0 ht hm j (i + 1) (by omega)) (nbrs_symm ⟨hh.c1, hc6⟩ hh.cr (Nat.le_of_lt (w.lt i (by omega)).1) (w.next i (by omega))) (hm i (by omega))

/-! What is behind a place that is lower than its sill. -/
section
variable {c r : Nat} {hs best : List Int} (hh : HS c r hs) (hc6 : c ≤ 6) (h0 : hs.getD r 0 = 0) (hl : Lowest c r hs r best)
include hh hc6

omit hh hc6 in
theorem RP.mono {t t' : Int} {p y : Nat} (ht : t ≤ t') (k : RP c r hs t p y) : RP c r hs t' p y := by
  induction k with
  | start h => exact .start (by omega)
  | step _ hy hr h ih => exact .step ih hy hr (by omega)
theorem RP.symm {t : Int} {p y : Nat} (hp : p < r) (k : RP c r hs t p y) : RP c r hs t y p := by
  induction k with
  | start h => exact .start h
  | step hx hy hr ht ih =>
    have hxr := hx.lt hp
    exact (RP.step (.start ht) (nbrs_symm ⟨hh.c1, hc6⟩ hh.cr (Nat.le_of_lt hxr) hy) hxr hx.top).trans ih

include h0 hl
theorem basin_sill {p x : Nat} (hp : p < r) (k : RP c r hs (best.getD p 0 - 1) p x) : best.getD x 0 = best.getD p 0 := by
  have hx := k.lt hp
  have b1 := best_le hh hc6 hl (Nat.le_of_lt hp)
  have b2 := best_le hh hc6 hl (Nat.le_of_lt hx)
  have d1 := hl.bd p (by have := hh.r36; omega)
  have d2 := hl.bd x (by have := hh.r36; omega)
  obtain ⟨y, hy, hyr⟩ := (found_iff hh hc6 h0 hl hp (t := best.getD p 0) (by omega)).2 (Int.le_refl _)
  have ks := RP.symm hh hc6 hp k
  have g1 : best.getD x 0 ≤ best.getD p 0 := (found_iff hh hc6 h0 hl hx (by omega)).1 ⟨y, (RP.mono (by omega) ks).trans hy, hyr⟩
  rcases Int.lt_or_le (best.getD x 0) (best.getD p 0) with g2 | g2
  · obtain ⟨z, hz, hzr⟩ := (found_iff hh hc6 h0 hl hx (t := best.getD x 0) (by omega)).2 (Int.le_refl _)
    have := (found_iff hh hc6 h0 hl hp (t := best.getD p 0 - 1) (by omega)).1 ⟨z, k.trans (RP.mono (by omega) hz), hzr⟩
    omega
  · omega

theorem basin_bars {p : Nat} (hp : p < r) {l : List Nat} (hm : ∀ y, y ∈ l ↔ RP c r hs (best.getD p 0 - 1) p y) : Bars c r hs l (best.getD p 0) := by
  intro x hx y hy
  have k := (hm x).1 hx
  have hxr := k.lt hp
  have hyr := nbrs_le hh.c1 hh.cr (Nat.le_of_lt hxr) hy
  have b1 := best_le hh hc6 hl (Nat.le_of_lt hp)
  have hne : y ≠ r := by
    rintro rfl
    have h1 := k.top
    have h2 := (hh.bd x).1
    have := (found_iff hh hc6 h0 hl hp (t := best.getD p 0 - 1) (by omega)).1 ⟨x, k, hy⟩
    omega
  exact ⟨hne, fun hlt => (hm y).2 (.step k hy (by omega) (by omega))⟩
end

/-! How far each place is, found round by round in one list. -/
structure FB (c r : Nat) (hs : List Int) (h : Int) (far : List Int) : Prop where
  len : far.length = r
  bd : ∀ z, z < r → 1 ≤ far.getD z 0 ∧ far.getD z 0 ≤ 1000
  snd : ∀ z, z < r → far.getD z 0 = 1000 ∨ ∃ j : Nat, far.getD z 0 = (j : Int) ∧ Dk c r hs h j z

def FC (c r : Nat) (hs : List Int) (h : Int) (far : List Int) (K : Nat) (z : Nat) : Prop := ∀ j : Nat, j ≤ K → Dk c r hs h j z → far.getD z 0 ≤ (j : Int)

theorem FB.set {c r : Nat} {hs : List Int} {h : Int} {far : List Int} (k : FB c r hs h far) {x : Nat} {v : Int} (hx : x < r) (hv : 1 ≤ v) (hle : v ≤ far.getD x 0) (hs' : v = far.getD x 0 ∨ v = 1000 ∨ ∃ j : Nat, v = (j : Int) ∧ Dk c r hs h j x) :
    FB c r hs h (far.set x v) ∧ ∀ z, (far.set x v).getD z 0 = if z = x then v else far.getD z 0 := by
  have hg : ∀ z, (far.set x v).getD z 0 = if z = x then v else far.getD z 0 := fun z => getD_set (by rw [k.len]; exact hx)
  refine ⟨⟨by rw [List.length_set, k.len], fun z hz => ?_, fun z hz => ?_⟩, hg⟩
  · rw [hg]; have := k.bd z hz; split
    · rename_i e; subst e; omega
    · exact this
  · rw [hg]; split
    · rename_i e; subst e
      rcases hs' with h1 | h1 | h1
      · rw [h1]; exact k.snd _ hz
      · exact .inl h1
      · exact .inr h1
    · exact k.snd z hz

theorem nbrs_ne {c r x y : Nat} (hc : 1 ≤ c ∧ c ≤ 6) (hx : x < r) (hy : y < r) (h : y ∈ nbrs c r x) : y ≠ x := by
  rintro rfl
  rcases (nbrs_iff hc hx hy).1 h with h1 | h1 <;> omega

theorem FB.relax {c r : Nat} {hs : List Int} {h : Int} {far : List Int} (hh : HS c r hs) (hc6 : c ≤ 6) (k : FB c r hs h far) {x y : Nat} (hx : x < r) (hy : y < r) (hm : y ∈ nbrs c r x) (ht : hs.getD x 0 ≤ h) :
    FB c r hs h (far.set x (min (far.getD x 0) (far.getD y 0 + 1))) ∧ (∀ z, z < r → (far.set x (min (far.getD x 0) (far.getD y 0 + 1))).getD z 0 ≤ far.getD z 0) ∧ (far.set x (min (far.getD x 0) (far.getD y 0 + 1))).getD x 0 ≤ far.getD y 0 + 1 ∧
      ∀ z, z ≠ x → (far.set x (min (far.getD x 0) (far.getD y 0 + 1))).getD z 0 = far.getD z 0 := by
  have bx := k.bd x hx
  have b_y := k.bd y hy
  obtain ⟨h1, hg⟩ := k.set (v := min (far.getD x 0) (far.getD y 0 + 1)) hx (by omega) (by omega) (by
    rcases Int.lt_or_le (far.getD y 0 + 1) (far.getD x 0) with h2 | h2
    · rcases k.snd y hy with h3 | ⟨j, h3, h4⟩
      · omega
      · exact .inr (.inr ⟨j + 1, by omega, .succ h4 (nbrs_symm ⟨hh.c1, hc6⟩ hh.cr (Nat.le_of_lt hx) hm) ht⟩)
    · exact .inl (by omega))
  refine ⟨h1, fun z hz => ?_, ?_, fun z hz => ?_⟩
  · rw [hg]; split
    · rename_i e; subst e; omega
    · exact Int.le_refl _
  · rw [hg, if_pos rfl]; omega
  · rw [hg, if_neg hz]

theorem FB.one {c r : Nat} {hs : List Int} {h : Int} {far : List Int} (hh : HS c r hs) (hc6 : c ≤ 6) (k : FB c r hs h far) {x : Nat} (hx : x < r) (hm : r ∈ nbrs c r x) (ht : hs.getD x 0 ≤ h) :
    FB c r hs h (far.set x 1) ∧ (∀ z, z < r → (far.set x 1).getD z 0 ≤ far.getD z 0) ∧ (far.set x 1).getD x 0 ≤ 1 := by
  have bx := k.bd x hx
  obtain ⟨h1, hg⟩ := k.set (v := 1) hx (by omega) (by omega) (.inr (.inr ⟨1, rfl, .succ .zero (nbrs_symm ⟨hh.c1, hc6⟩ hh.cr (Nat.le_of_lt hx) hm) ht⟩))
  refine ⟨h1, fun z hz => ?_, ?_⟩
  · rw [hg]; split
    · rename_i e; subst e; omega
    · exact Int.le_refl _
  · rw [hg, if_pos rfl]; exact Int.le_refl _

theorem FC.of_le {c r : Nat} {hs : List Int} {h : Int} {far far' : List Int} {K z : Nat} (k : FC c r hs h far K z) (hl : far'.getD z 0 ≤ far.getD z 0) : FC c r hs h far' K z := fun j hj d => Int.le_trans hl (k j hj d)

/-- A place whose neighbours have been looked at. -/
theorem FC.next {c r : Nat} {hs : List Int} {h : Int} {far : List Int} {K x : Nat} (hh : HS c r hs) (hc6 : c ≤ 6) (hx : x < r) (hK : ∀ z, z < r → FC c r hs h far K z) (h1 : r ∈ nbrs c r x → far.getD x 0 ≤ 1) (h2 : ∀ y, y < r → y ∈ nbrs c r x → far.getD x 0 ≤ far.getD y 0 + 1) : FC c r hs h far (K + 1) x := by
  intro j hj d
  cases d with
  | zero => omega
  | succ hw hy ht =>
    rename_i k w
    have hwr := hw.le hh.c1 hh.cr
    have hs := nbrs_symm ⟨hh.c1, hc6⟩ hh.cr hwr hy
    rcases Nat.lt_or_ge w r with h3 | h3
    · have h4 := hK w h3 k (by omega) hw
      have h5 := h2 w h3 hs
      omega
    · have : w = r := by omega
      subst this
      have := h1 hs
      omega

/-- What is left as it is where a place is too high. -/
theorem FC.high {c r : Nat} {hs : List Int} {h : Int} {far : List Int} {K x : Nat} (hx : x < r) (ht : h < hs.getD x 0) : FC c r hs h far K x := by
  intro j hj d
  cases d with
  | zero => omega
  | succ hw hy ht2 => omega

theorem FB.final {c r : Nat} {hs b : List Int} {h : Int} {far : List Int} (hh : HS c r hs) (D : Dist c r hs h b) (k : FB c r hs h far) {p K : Nat} (hp : p < r) (hK : b.getD p 0 = (K : Int)) (hKr : K ≤ r) (hd : Dk c r hs h K p) (hc : FC c r hs h far r p) : far.getD p 0 = (K : Int) := by
  have h1 := hc K hKr hd
  have h36 := hh.r36
  rcases k.snd p hp with h2 | ⟨j, h2, h3⟩
  · omega
  · have := (D.min hh h3).2
    omega
end Go.Proofs.Ytmogipomnjihcaa.Eb

namespace Go.Proofs.Ytmogipomnjihcaa.Eb
open Go Go.Abs Go.Low
set_option linter.unusedVariables false
set_option linter.unusedSimpArgs false
attribute [local irreducible] gOK WS WC WR WD Ends FS YS OpV seqK blockK loopK midK retK rdK asgK rangeEnd sat Cell

set_option maxHeartbeats 2000000 in
theorem EbbProved_fs {M : HL} {n : Nat} {H : Heap} (hH : hasH M n H) {a b one8 : Int} {hs : List Int} (hb : Bytes a b hs) (hone8 : 0 ≤ one8 ∧ one8 ≤ 255) :
    FS C 8 [.agg (strand a b hs).toArray, .int .u8 one8] H (fun e H' => e = .bool true) := by
  have hone := strand_one a b hs
  have hck := made_check (m := 6) (by omega) hb
  obtain ⟨hh, hc6, hr36⟩ := HS_of hck
  have hl1 : 1 ≤ (heightsOf 6 a b hs).length := hh.cr |> Nat.le_trans hh.c1
  refine FS.intro (pf := pf8) rfl rfl rfl ?_
  repeat' (first | refine zA ?_ | (refine zM ?_; intro _ _) | (apply Ws <;> intro hg))
  rename_i H1 hH1
  refine WR.op (by first | exact gN | exact gS rfl) rfl (OpV.loadAll (k := 38) rfl hH1 (.head _) (.row _ _ _ _) (by simp [strand, hb.len])) ?_
  refine WR.call (by first | exact gN | exact gS rfl) rfl rfl (made_fs hH1 (m := 6) (by omega) hb) ?_
  rintro _ H2 ⟨v, Mx, n2, rfl, hn2, hO, hH2⟩
  generalize hxs : heightsOf 6 a b hs = xs at hck hh hr36 hl1 hO
  have hsb := side_le (m := 6) (a := b) (by omega)
  obtain ⟨c, hcc⟩ : ∃ c : Nat, side 6 b = c := ⟨(side 6 b).toNat, by omega⟩
  rw [hcc] at hck hh hc6 ⊢
  rw [Int.toNat_natCast] at hh hc6
  have hv := (hO.sl M).one_
  have hSv := hO.sl ((n, .row 60 0 0 (strand a b hs)) :: M)
  repeat' (first | refine zA ?_ | (refine zM ?_; intro _ _) | (apply Ws <;> intro hg))
  rename_i H3 hH3
  refine WR.storeAll (by first | exact gN | exact gS rfl) hH3 rfl rfl (ls := [.int .i64 (side 6 a), .int .i64 (c : Int), v]) rfl rfl (by first | exact .here | exact .there .here | exact .there (.there .here) | exact .there (.there (.there .here)) | exact .there (.there (.there (.there .here))) | exact .there (.there (.there (.there (.there .here))))) (by (repeat' (first | exact all_nil | refine all_cons (by first | rfl | assumption) ?_))) (by rfl) fun H4 hH4 => ?_
  clear hH3 hH2 hH1
  have hSv2 : Sl ((n2, .row 24 0 0 [.int .i64 (side 6 a), .int .i64 (c : Int), v]) :: (Mx ++ ((n, .row 60 0 0 (strand a b hs)) :: M))) 1 v (ints xs) := hSv.cons
  have hmT : (n2, Ch.row 24 0 0 [.int .i64 (side 6 a), .int .i64 (c : Int), v]) ∈ (n2, Ch.row 24 0 0 [.int .i64 (side 6 a), .int .i64 (c : Int), v]) :: (Mx ++ ((n, .row 60 0 0 (strand a b hs)) :: M)) := .head _
  generalize (n2, Ch.row 24 0 0 [.int .i64 (side 6 a), .int .i64 (c : Int), v]) :: (Mx ++ ((n, .row 60 0 0 (strand a b hs)) :: M)) = T at hmT hSv2 hH4
  generalize side 6 a = rows at hck hmT ⊢
  clear hSv hO hone hb
  have h0 : (padded xs).getD xs.length 0 = 0 := by rw [padded_get (by omega)]; simp
  repeat' (first | refine zA ?_ | (refine zM ?_; intro _ _) | refine zX ?_ | (refine zC ?_; intro _ _ _ _) | (refine zS ?_; intro _ _) | (apply Ws <;> intro hg))
  refine WR.op (by first | exact gN | exact gS rfl) rfl (OpV.conv u5 u3 rfl (c := one8) (IntWalk.i64_in _ (by omega))) ?_
  repeat' (first | refine zA ?_ | (refine zM ?_; intro _ _) | refine zX ?_ | (refine zC ?_; intro _ _ _ _) | (refine zS ?_; intro _ _) | (apply Ws <;> intro hg))
  obtain ⟨p, hpe⟩ : ∃ p : Nat, one8 % (xs.length : Int) = p := ⟨(one8 % (xs.length : Int)).toNat, by have := Int.emod_nonneg one8 (show (xs.length : Int) ≠ 0 by omega); omega⟩
  have hp : p < xs.length := by have := Int.emod_lt_of_pos one8 (show (0 : Int) < xs.length by omega); omega
  rw [hpe]
  clear hpe hone8
  refine WR.call (by first | exact gN | exact gS rfl) rfl rfl (Sills_fs hH4 hSv2 (by omega)) ?_
  rintro _ H5 ⟨n5, hn5, ⟨hne, _⟩ | ⟨_, vs, Ms, best, rfl, hOs, hH5, hl⟩⟩
  · exact absurd hck hne
  rw [Int.toNat_natCast] at hl
  have hlb := hl.len
  have hSs : Sl (Ms ++ T) 1 vs (ints (best.take xs.length)) := hOs.sl T
  replace hmT := List.mem_append_right Ms hmT
  replace hSv2 : Sl (Ms ++ T) 1 v (ints xs) := hSv2.mono (fun q hq => List.mem_append_right _ hq)
  obtain ⟨ss, hsse⟩ : ∃ ss, best.take xs.length = ss := ⟨_, rfl⟩
  rw [hsse] at hSs
  have hssl : ss.length = xs.length := by rw [← hsse]; simp; omega
  have hssg : ∀ z, z < xs.length → ss.getD z 0 = best.getD z 0 := fun z hz => by
    rw [← hsse, List.getD_eq_getElem?_getD, List.getD_eq_getElem?_getD, List.getElem?_take_of_lt hz]
  clear hsse hH4 hn5
  generalize Ms ++ T = T at hmT hSv2 hSs hH5
  clear hOs
  repeat' (first | refine zA ?_ | (refine zM ?_; intro _ _) | refine zX ?_ | (refine zC ?_; intro _ _ _ _) | (refine zS ?_; intro _ _) | (apply Ws <;> intro hg))
  refine WR.call (by first | exact gN | exact gS rfl) rfl rfl (WayA hH5 hSv2 (by omega) (p : Int)) ?_
  rintro _ H6 ⟨n6, Mw, vw, wl, rfl, hSw, hH6, hwl⟩
  have hpl : placeE rows c xs p = 0 := by simp only [placeE, hck, ne_eq, not_true_eq_false, if_false]; rw [if_pos (by omega)]
  rw [hpl]
  rcases hwl with ⟨hx0, _⟩ | ⟨_, best', bd, hl', hD, hwe⟩
  · exact absurd hpl hx0
  rw [Int.toNat_natCast, Int.toNat_natCast] at hwe
  rw [Int.toNat_natCast] at hl'
  rw [Int.toNat_natCast, Int.toNat_natCast] at hD
  have hbb := hl'.unique hh (Nat.le_refl _) hl
  subst hbb
  obtain ⟨k, hk, hkr, hdk⟩ := dist_at hh hc6 (p := p) (by omega) hl' hD
  have wok := way_ok hh hc6 hD k p (by omega) hk hkr
  rw [hk, Int.toNat_natCast] at hwe
  rw [← hwe] at wok
  have hwlen : wl.length = k := by rw [hwe, wayL_len]
  have hk1 : 1 ≤ k := by
    rcases Nat.eq_zero_or_pos k with h1 | h1
    · subst h1; have := Dk.zero_ hdk; omega
    · exact h1
  have hw0 : wl.getD 0 0 = p := by
    rw [hwe]
    cases k with
    | zero => omega
    | succ k => simp [wayL]
  clear hl hwe hH5
  replace hmT := List.mem_append_right Mw hmT
  replace hSv2 : Sl (Mw ++ T) 1 v (ints xs) := hSv2.mono (fun q hq => List.mem_append_right _ hq)
  replace hSs : Sl (Mw ++ T) 1 vs (ints ss) := hSs.mono (fun q hq => List.mem_append_right _ hq)
  generalize Mw ++ T = T at hmT hSv2 hSs hSw hH6
  repeat' (first | refine zA ?_ | (refine zM ?_; intro _ _) | refine zX ?_ | (refine zC ?_; intro _ _ _ _) | (refine zS ?_; intro _ _) | (apply Ws <;> intro hg))
  refine WR.call (by first | exact gN | exact gS rfl) rfl rfl (BasinA hH6 hSv2 (by omega) (p : Int)) ?_
  rintro _ H7 ⟨n7, Mb, vb, bl, rfl, hSb, hH7, hbl⟩
  rw [hpl]
  have hbll := bas_len hbl
  rcases hbl with ⟨hx0, _⟩ | ⟨_, best2, hl2, hbs, hbm⟩
  · exact absurd hpl hx0
  rw [Int.toNat_natCast] at hl2
  rw [Int.toNat_natCast, Int.toNat_natCast] at hbm
  have hbb := hl2.unique hh (Nat.le_refl _) hl'
  subst hbb
  clear hl' hH6
  replace hmT := List.mem_append_right Mb hmT
  replace hSv2 : Sl (Mb ++ T) 1 v (ints xs) := hSv2.mono (fun q hq => List.mem_append_right _ hq)
  replace hSs : Sl (Mb ++ T) 1 vs (ints ss) := hSs.mono (fun q hq => List.mem_append_right _ hq)
  replace hSw : Sl (Mb ++ T) 1 vw (nodes wl) := hSw.mono (fun q hq => List.mem_append_right _ hq)
  generalize Mb ++ T = T at hmT hSv2 hSs hSw hSb hH7
  have hb30 := hl2.bd p (by omega)
  have hcc : 1 ≤ c ∧ c ≤ 6 := ⟨hh.c1, hc6⟩
  have hcr := hh.cr
  have hpad : ∀ z, (padded xs).getD z 0 = xs.getD z 0 := fun z => padded_get (by omega) z
  have hbp : best2.getD p 0 ≤ 30 := best_le hh hc6 hl2 (Nat.le_of_lt hp)
  repeat' (first | refine zA ?_ | (refine zM ?_; intro _ _) | refine zX ?_ | (refine zC ?_; intro _ _ _ _) | (refine zS ?_; intro _ _) | refine zO ?_ | (apply Ws <;> intro hg))
  have hw30 : ∀ i, i < wl.length → 0 ≤ xs.getD (wl.getD i 0) 0 ∧ xs.getD (wl.getD i 0) 0 ≤ best2.getD p 0 := fun i hi => by
    have h1 := (wok.lt i hi).2
    have h2 := (hh.bd (wl.getD i 0)).1
    rw [hpad] at h1 h2
    exact ⟨h2, h1⟩
  clear hxs hn2 hsb hlb
  -- how high the way is
  refine WC.loopX [(5, _), (6, _), (7, _), (8, _), (10, _), (12, _), (82, _), (83, _)] (fun s : Nat × Int × Nat => [(14, .int .i64 s.2.1), (84, .int .i64 (s.1 : Int))]) []
    (fun s H => s.1 ≤ wl.length ∧ hasH T s.2.2 H ∧ 0 ≤ s.2.1 ∧ s.2.1 ≤ best2.getD p 0 ∧ ∀ i, i < s.1 → xs.getD (wl.getD i 0) 0 ≤ s.2.1)
    (fun s => wl.length - s.1) (0, 0, n7) (by repeat' (first | exact .nil | refine .cons rfl ?_)) rfl ⟨Nat.zero_le _, hH7, Int.le_refl _, hb30.1, fun i hi => absurd hi (Nat.not_lt_zero _)⟩ ?_
  clear hH7
  rintro ⟨i, hg0, n8⟩ H8 ⟨hi, hH8, hg0a, hg0b, hmax⟩
  simp only at hi hH8 hg0a hg0b hmax
  dsimp only [List.cons_append, List.nil_append]
  repeat' (first | refine zA ?_ | (refine zM ?_; intro _ _) | refine zX ?_ | (refine zC ?_; intro _ _ _ _) | (refine zS ?_; intro _ _) | (apply Ws <;> intro hg))
  refine WC.condP rfl (fun hlt => ?_) (fun hlt => ?_)
  · have hi' : i < wl.length := by omega
    have hxi := (wok.lt i hi').1
    have hxh := hw30 i hi'
    repeat' (first | refine zA ?_ | (refine zM ?_; intro _ _) | refine zX ?_ | (refine zC ?_; intro _ _ _ _) | (refine zS ?_; intro _ _) | refine zO ?_ | (apply Ws <;> intro hg))
    · -- beside the one before
      refine WR.call (by first | exact gN | exact gS rfl) rfl rfl (beside_fs hH8 hSv2 hcc hcr hr36 (wok.lt ((i : Int) - 1).toNat (by omega)).1 (Nat.le_of_lt hxi)) ?_
      rintro _ H9 ⟨rfl, n9, hn9, hH9⟩
      have hnx := wok.next ((i : Int) - 1).toNat (by omega)
      rw [show ((i : Int) - 1).toNat + 1 = i by omega] at hnx
      rw [decide_eq_true hnx]
      repeat' (first | refine zA ?_ | (refine zM ?_; intro _ _) | refine zX ?_ | (refine zC ?_; intro _ _ _ _) | (refine zS ?_; intro _ _) | refine zO ?_ | (apply Ws <;> intro hg))
      exact Ends.loop (i + 1, max hg0 (xs.getD (wl.getD i 0) 0), n9) (by simp only; omega) (by repeat' (first | exact .nil | refine .cons rfl ?_)) rfl ⟨hi', hH9, by simp only; omega, by simp only; omega, fun j hj => by
        rcases Nat.lt_or_ge j i with h1 | h1
        · have := hmax j h1; simp only; omega
        · have : j = i := by simp only at hj; omega
          subst this; simp only; omega⟩
    · exact Ends.loop (i + 1, max hg0 (xs.getD (wl.getD i 0) 0), n8) (by simp only; omega) (by repeat' (first | exact .nil | refine .cons rfl ?_)) rfl ⟨hi', hH8, by simp only; omega, by simp only; omega, fun j hj => by
        have : j = i := by simp only at hj; omega
        subst this; simp only; omega⟩
  have hik : i = wl.length := by omega
  subst hik
  clear hlt hi
  have hhigh : hg0 = best2.getD p 0 := by
    have h1 := wok.reach hh hc6 h0 hg0a (fun j hj => by rw [hpad]; exact hmax j hj) (wl.length - 1) 0 (by omega)
    rw [hw0] at h1
    have h2 := (hl2.out.done hh (Nat.le_refl _) (t := hg0) (by omega) (Nat.le_of_lt hp)).2 h1
    omega
  subst hhigh
  clear hg0a hg0b hmax
  have hsp := hssg p hp
  repeat' (first | refine zA ?_ | (refine zM ?_; intro _ _) | refine zX ?_ | (refine zC ?_; intro _ _ _ _) | (refine zS ?_; intro _ _) | refine zO ?_ | (apply Ws <;> intro hg))
  have hlastp := wok.last ((wl.length : Int) - 1).toNat (by omega)
  refine WR.call (by first | exact gN | exact gS rfl) rfl rfl (beside_fs hH8 hSv2 hcc hcr hr36 (wok.lt ((wl.length : Int) - 1).toNat (by omega)).1 (Nat.le_refl _)) ?_
  rintro _ H9 ⟨rfl, n9, hn9, hH9⟩
  rw [decide_eq_true hlastp]
  clear hH8
  repeat' (first | refine zA ?_ | (refine zM ?_; intro _ _) | refine zX ?_ | (refine zC ?_; intro _ _ _ _) | (refine zS ?_; intro _ _) | refine zO ?_ | (apply Ws <;> intro hg))
  rw [hsp]
  have hblt : ∀ q ∈ bl, q < xs.length := fun q hq => ((hbm q).1 hq).lt hp
  have hbars := basin_bars hh hc6 h0 hl2 hp hbm
  refine WR.call (by first | exact gN | exact gS rfl) rfl rfl (Proves_fs hH9 hSv2 hSb (by omega) hck hblt hbs hbll ⟨hb30.1, hbp⟩) ?_
  rintro _ H10 ⟨rfl, n10, hn10, hH10⟩
  rw [Int.toNat_natCast, if_pos hbars]
  clear hH9
  repeat' (first | refine zA ?_ | (refine zM ?_; intro _ _) | refine zX ?_ | (refine zC ?_; intro _ _ _ _) | (refine zS ?_; intro _ _) | refine zO ?_ | (apply Ws <;> intro hg))
  refine WR.bldS (by first | exact gN | exact gS rfl) rfl hH10 (vs := [(0, .int .i64 1000)]) rfl (cs := [.int .i64 1000]) (by rfl) rfl fun H11 hH11 => ?_
  have hSm1 : Sl ((n10, .row 3 0 0 [.int .i64 1000]) :: T) 1 (.slice (some ⟨n10, 0, some 0⟩) 1 (2 * 1 + 1)) (ints [1000]) :=
    .row (lo := 0) (cs := ints [1000]) (.head _) (.row _ _ _ _) (Nat.zero_le _) rfl rfl (by simp) (.inr ⟨1, rfl, by omega⟩)
  repeat' (first | refine zA ?_ | (refine zM ?_; intro _ _) | refine zX ?_ | (refine zC ?_; intro _ _ _ _) | (refine zS ?_; intro _ _) | refine zO ?_ | (apply Ws <;> intro hg))
  refine WR.call (by first | exact gN | exact gS rfl) rfl rfl (Repeat_fs hH11 hSm1 (m := xs.length) ⟨hl1, hr36⟩) ?_
  rintro _ H12 ⟨bf, n12, far0, rfl, hn12, hH12', hfl0, hf0⟩
  have hH12 : hasH ((bf, .row 3 0 0 (ints far0)) :: T) n12 H12 := hH12'.sub (.cons_cons _ (.cons _ (.refl _)))
  clear hH12' hH11 hSm1 hH10
  have hfb0 : FB c xs.length (padded xs) (best2.getD p 0) far0 := ⟨hfl0, fun z hz => by rw [hf0 z hz]; omega, fun z hz => .inl (hf0 z hz)⟩
  have hfc0 : ∀ z, z < xs.length → FC c xs.length (padded xs) (best2.getD p 0) far0 0 z := fun z hz j hj d => by
    have : j = 0 := by omega
    subst this
    have := Dk.zero_ d
    omega
  replace hmT : ∀ u, (n2, Ch.row 24 0 0 [.int .i64 rows, .int .i64 (c : Int), v]) ∈ u :: T := fun u => List.mem_cons_of_mem _ hmT
  have hmTf : ∀ far, (n2, Ch.row 24 0 0 [.int .i64 rows, .int .i64 (c : Int), v]) ∈ (bf, Ch.row 3 0 0 (ints far)) :: T := fun far => hmT _
  have hx30 : ∀ z, z < xs.length → 0 ≤ xs.getD z 0 := fun z hz => by have := (hh.bd z).1; rw [hpad] at this; exact this
  clear hf0 hfl0
  repeat' (first | refine zA ?_ | (refine zM ?_; intro _ _) | refine zX ?_ | (refine zC ?_; intro _ _ _ _) | (refine zS ?_; intro _ _) | refine zO ?_ | (apply Ws <;> intro hg))
  -- the rounds
  refine WC.loopX [(5, _), (6, _), (7, _), (8, _), (10, _), (12, _), (14, _), (17, _), (150, _)] (fun s : Nat × List Int × Nat => [(151, .int .i64 (s.1 : Int))]) []
    (fun s H => s.1 ≤ xs.length ∧ hasH ((bf, .row 3 0 0 (ints s.2.1)) :: T) s.2.2 H ∧ FB c xs.length (padded xs) (best2.getD p 0) s.2.1 ∧ ∀ z, z < xs.length → FC c xs.length (padded xs) (best2.getD p 0) s.2.1 s.1 z)
    (fun s => xs.length - s.1) (0, far0, n12) (by repeat' (first | exact .nil | refine .cons rfl ?_)) rfl ⟨Nat.zero_le _, hH12, hfb0, hfc0⟩ ?_
  clear hH12 hfb0 hfc0
  rintro ⟨K, far, n13⟩ H13 ⟨hK, hH13, hfb, hfc⟩
  simp only at hK hH13 hfb hfc
  have hfl := hfb.len
  dsimp only [List.cons_append, List.nil_append]
  repeat' (first | refine zA ?_ | (refine zM ?_; intro _ _) | refine zX ?_ | (refine zC ?_; intro _ _ _ _) | (refine zS ?_; intro _ _) | (apply Ws <;> intro hg))
  refine WC.condP rfl (fun hlt => ?_) (fun hlt => ?_)
  · have hK' : K < xs.length := by omega
    repeat' (first | refine zA ?_ | (refine zM ?_; intro _ _) | refine zX ?_ | (refine zC ?_; intro _ _ _ _) | (refine zS ?_; intro _ _) | refine zO ?_ | (apply Ws <;> intro hg))
    -- the places
    refine WC.loopX [(5, _), (6, _), (7, _), (8, _), (10, _), (12, _), (14, _), (17, _), (150, _), (151, _), (153, _), (154, _)] (fun s : Nat × List Int × Nat => [(155, .int .i64 (s.1 : Int))]) []
      (fun s H => s.1 ≤ xs.length ∧ hasH ((bf, .row 3 0 0 (ints s.2.1)) :: T) s.2.2 H ∧ FB c xs.length (padded xs) (best2.getD p 0) s.2.1 ∧ (∀ z, z < xs.length → FC c xs.length (padded xs) (best2.getD p 0) s.2.1 K z) ∧ ∀ z, z < s.1 → FC c xs.length (padded xs) (best2.getD p 0) s.2.1 (K + 1) z)
      (fun s => xs.length - s.1) (0, far, n13) (by repeat' (first | exact .nil | refine .cons rfl ?_)) rfl ⟨Nat.zero_le _, hH13, hfb, hfc, fun z hz => absurd hz (Nat.not_lt_zero _)⟩ ?_
    clear hH13 hfb hfc hfl
    rintro ⟨x, far, n14⟩ H14 ⟨hx, hH14, hfb, hfc, hfd⟩
    simp only at hx hH14 hfb hfc hfd
    have hfl := hfb.len
    dsimp only [List.cons_append, List.nil_append]
    repeat' (first | refine zA ?_ | (refine zM ?_; intro _ _) | refine zX ?_ | (refine zC ?_; intro _ _ _ _) | (refine zS ?_; intro _ _) | (apply Ws <;> intro hg))
    refine WC.condP rfl (fun hlt2 => ?_) (fun hlt2 => ?_)
    · have hx' : x < xs.length := by omega
      have hmT2 := hmTf far
      have hx30' := hx30 x hx'
      repeat' (first | refine zA ?_ | (refine zM ?_; intro _ _) | refine zX ?_ | (refine zC ?_; intro _ _ _ _) | (refine zS ?_; intro _ _) | (apply Ws <;> intro hg))
      refine WC.condP rfl (fun hhi => ?_) (fun hhi => ?_)
      · repeat' (first | refine zA ?_ | (refine zM ?_; intro _ _) | refine zX ?_ | (refine zC ?_; intro _ _ _ _) | (refine zS ?_; intro _ _) | refine zO ?_ | (apply Ws <;> intro hg))
        exact Ends.loop (x + 1, far, n14) (by simp only; omega) (by repeat' (first | exact .nil | refine .cons rfl ?_)) rfl ⟨hx', hH14, hfb, hfc, fun z hz => by
          rcases Nat.lt_or_ge z x with h1 | h1
          · exact hfd z h1
          · have : z = x := by simp only at hz; omega
            subst this; exact FC.high hx' (by rw [hpad]; exact hhi)⟩
      have hlow : (padded xs).getD x 0 ≤ best2.getD p 0 := by rw [hpad]; omega
      have hSv3 : Sl ((bf, Ch.row 3 0 0 (ints far)) :: T) 1 v (ints xs) := hSv2.cons
      repeat' (first | refine zA ?_ | (refine zM ?_; intro _ _) | refine zX ?_ | (refine zC ?_; intro _ _ _ _) | (refine zS ?_; intro _ _) | refine zO ?_ | (apply Ws <;> intro hg))
      refine WR.call (by first | exact gN | exact gS rfl) rfl rfl (beside_fs hH14 hSv3 hcc hcr hr36 hx' (Nat.le_refl _)) ?_
      rintro _ H15 ⟨rfl, n15, hn15, hH15⟩
      clear hH14
      repeat' (first | refine zA ?_ | (refine zM ?_; intro _ _) | refine zX ?_ | (refine zC ?_; intro _ _ _ _) | (refine zS ?_; intro _ _) | (apply Ws <;> intro hg))
      refine WC.joinX [(5, _), (6, _), (7, _), (8, _), (10, _), (12, _), (14, _), (17, _), (18, _), (150, _), (151, _), (153, _), (154, _), (155, _)] (by repeat' (first | exact .nil | refine .cons rfl ?_)) (fun far : List Int => [])
        (fun far H => hasH ((bf, .row 3 0 0 (ints far)) :: T) n15 H ∧ FB c xs.length (padded xs) (best2.getD p 0) far ∧ (∀ z, z < xs.length → FC c xs.length (padded xs) (best2.getD p 0) far K z) ∧ (∀ z, z < x → FC c xs.length (padded xs) (best2.getD p 0) far (K + 1) z) ∧ (xs.length ∈ nbrs c xs.length x → far.getD x 0 ≤ 1)) ?_ ?_
      · refine WC.condP rfl (fun hriv => ?_) (fun hriv => ?_)
        · repeat' (first | refine zA ?_ | (refine zM ?_; intro _ _) | refine zX ?_ | (refine zC ?_; intro _ _ _ _) | (refine zS ?_; intro _ _) | refine zO ?_ | (apply Ws <;> intro hg))
          rename_i H16 hH16
          obtain ⟨g1, g2, g3⟩ := hfb.one hh hc6 hx' hriv hlow
          exact Ends.midX (far.set x 1) (by repeat' (first | exact .nil | refine .cons rfl ?_)) ⟨hH16, g1, fun z hz => (hfc z hz).of_le (g2 z hz), fun z hz => (hfd z hz).of_le (g2 z (by omega)), fun _ => g3⟩
        · repeat' (first | refine zA ?_ | (refine zM ?_; intro _ _) | refine zX ?_ | (refine zC ?_; intro _ _ _ _) | (refine zS ?_; intro _ _) | refine zO ?_ | (apply Ws <;> intro hg))
          exact Ends.midX far (by repeat' (first | exact .nil | refine .cons rfl ?_)) ⟨hH15, hfb, hfc, hfd, fun h1 => absurd h1 hriv⟩
      clear hH15 hfb hfc hfd hfl hSv3 hmT2
      rintro far H16 ⟨hH16, hfb, hfc, hfd, hr1⟩
      have hfl := hfb.len
      dsimp only [List.cons_append, List.nil_append]
      repeat' (first | refine zA ?_ | (refine zM ?_; intro _ _) | refine zX ?_ | (refine zC ?_; intro _ _ _ _) | (refine zS ?_; intro _ _) | refine zO ?_ | (apply Ws <;> intro hg))
      refine WC.loopX [(5, _), (6, _), (7, _), (8, _), (10, _), (12, _), (14, _), (17, _), (18, _), (150, _), (151, _), (153, _), (154, _), (155, _), (172, _), (173, _)] (fun s : Nat × List Int × Nat => [(174, .int .i64 (s.1 : Int))]) []
        (fun s H => s.1 ≤ xs.length ∧ hasH ((bf, .row 3 0 0 (ints s.2.1)) :: T) s.2.2 H ∧ FB c xs.length (padded xs) (best2.getD p 0) s.2.1 ∧ (∀ z, z < xs.length → FC c xs.length (padded xs) (best2.getD p 0) s.2.1 K z) ∧ (∀ z, z < x → FC c xs.length (padded xs) (best2.getD p 0) s.2.1 (K + 1) z) ∧ (xs.length ∈ nbrs c xs.length x → s.2.1.getD x 0 ≤ 1) ∧
          ∀ y, y < s.1 → y ∈ nbrs c xs.length x → s.2.1.getD x 0 ≤ s.2.1.getD y 0 + 1)
        (fun s => xs.length - s.1) (0, far, n15) (by repeat' (first | exact .nil | refine .cons rfl ?_)) rfl ⟨Nat.zero_le _, hH16, hfb, hfc, hfd, hr1, fun y hy => absurd hy (Nat.not_lt_zero _)⟩ ?_
      clear hH16 hfb hfc hfd hfl hr1
      rintro ⟨y, far, n16⟩ H17 ⟨hy, hH17, hfb, hfc, hfd, hr1, hn1⟩
      simp only at hy hH17 hfb hfc hfd hr1 hn1
      have hfl := hfb.len
      dsimp only [List.cons_append, List.nil_append]
      repeat' (first | refine zA ?_ | (refine zM ?_; intro _ _) | refine zX ?_ | (refine zC ?_; intro _ _ _ _) | (refine zS ?_; intro _ _) | (apply Ws <;> intro hg))
      refine WC.condP rfl (fun hlt3 => ?_) (fun hlt3 => ?_)
      · have hy' : y < xs.length := by omega
        have hSv3 : Sl ((bf, Ch.row 3 0 0 (ints far)) :: T) 1 v (ints xs) := hSv2.cons
        have hmT2 := hmTf far
        repeat' (first | refine zA ?_ | (refine zM ?_; intro _ _) | refine zX ?_ | (refine zC ?_; intro _ _ _ _) | (refine zS ?_; intro _ _) | (apply Ws <;> intro hg))
        refine WR.call (by first | exact gN | exact gS rfl) rfl rfl (beside_fs hH17 hSv3 hcc hcr hr36 hx' (Nat.le_of_lt hy')) ?_
        rintro _ H18 ⟨rfl, n18, hn18, hH18⟩
        clear hH17
        have bx := hfb.bd x hx'
        have b_y := hfb.bd y hy'
        repeat' (first | refine zA ?_ | (refine zM ?_; intro _ _) | refine zX ?_ | (refine zC ?_; intro _ _ _ _) | (refine zS ?_; intro _ _) | (apply Ws <;> intro hg))
        refine WC.condP rfl (fun hnb => ?_) (fun hnb => ?_)
        · repeat' (first | refine zA ?_ | (refine zM ?_; intro _ _) | refine zX ?_ | (refine zC ?_; intro _ _ _ _) | (refine zS ?_; intro _ _) | refine zO ?_ | (apply Ws <;> intro hg))
          rename_i H19 hH19
          obtain ⟨g1, g2, g3, g4⟩ := hfb.relax hh hc6 hx' hy' hnb hlow
          have hyx := nbrs_ne hcc hx' hy' hnb
          have g2x := g2 x hx'
          exact Ends.loop (y + 1, far.set x (min (far.getD x 0) (far.getD y 0 + 1)), n18) (by simp only; omega) (by repeat' (first | exact .nil | refine .cons rfl ?_)) rfl ⟨hy', hH19, g1, fun z hz => (hfc z hz).of_le (g2 z hz), fun z hz => (hfd z hz).of_le (g2 z (by omega)), fun h1 => by have := hr1 h1; simp only; omega, fun z hz hzm => by
            have hzx := nbrs_ne hcc hx' (by simp only at hz; omega) hzm
            simp only at hz ⊢
            rw [g4 z hzx]
            rcases Nat.lt_or_ge z y with h1 | h1
            · have := hn1 z h1 hzm; omega
            · have : z = y := by omega
              subst this; exact g3⟩
        · repeat' (first | refine zA ?_ | (refine zM ?_; intro _ _) | refine zX ?_ | (refine zC ?_; intro _ _ _ _) | (refine zS ?_; intro _ _) | refine zO ?_ | (apply Ws <;> intro hg))
          exact Ends.loop (y + 1, far, n18) (by simp only; omega) (by repeat' (first | exact .nil | refine .cons rfl ?_)) rfl ⟨hy', hH18, hfb, hfc, hfd, hr1, fun z hz hzm => by
            rcases Nat.lt_or_ge z y with h1 | h1
            · exact hn1 z h1 hzm
            · have : z = y := by simp only at hz; omega
              subst this; exact absurd hzm hnb⟩
      have hyn : y = xs.length := by omega
      subst hyn
      repeat' (first | refine zA ?_ | (refine zM ?_; intro _ _) | refine zX ?_ | (refine zC ?_; intro _ _ _ _) | (refine zS ?_; intro _ _) | refine zO ?_ | (apply Ws <;> intro hg))
      exact Ends.loop (x + 1, far, n16) (by simp only; omega) (by repeat' (first | exact .nil | refine .cons rfl ?_)) rfl ⟨hx', hH17, hfb, hfc, fun z hz => by
        rcases Nat.lt_or_ge z x with h1 | h1
        · exact hfd z h1
        · have : z = x := by simp only at hz; omega
          subst this; exact FC.next hh hc6 hx' hfc hr1 (fun y hy hm => hn1 y hy hm)⟩
    have hxn : x = xs.length := by omega
    subst hxn
    repeat' (first | refine zA ?_ | (refine zM ?_; intro _ _) | refine zX ?_ | (refine zC ?_; intro _ _ _ _) | (refine zS ?_; intro _ _) | refine zO ?_ | (apply Ws <;> intro hg))
    exact Ends.loop (K + 1, far, n14) (by simp only; omega) (by repeat' (first | exact .nil | refine .cons rfl ?_)) rfl ⟨hK', hH14, hfb, hfd⟩
  have hKn : K = xs.length := by omega
  subst hKn
  clear hlt hK
  have hfar : far.getD p 0 = (wl.length : Int) := by
    rw [hwlen]
    exact hfb.final hh hD hp hk hkr hdk (hfc p hp)
  have hmT2 := hmTf far
  clear hfc hfb
  repeat' (first | refine zA ?_ | (refine zM ?_; intro _ _) | refine zX ?_ | (refine zC ?_; intro _ _ _ _) | (refine zS ?_; intro _ _) | refine zO ?_ | (apply Ws <;> intro hg))
  refine WC.regionD ?_
  repeat' (first | refine zD ?_ | (refine zE ?_; intro _ _ _ _))
  rw [hfar, show decide ((wl.length : Int) ≠ (wl.length : Int)) = false by simp]
  repeat' (first | refine zD ?_ | (refine zE ?_; intro _ _ _ _))
  have hSbI : Sl ((bf, Ch.row 3 0 0 (ints far)) :: T) 1 vb (ints (bl.map fun (x : Nat) => (x : Int))) := by rw [← nodesR]; exact hSb.cons
  refine WD.call (by first | exact gN | exact gS rfl) rfl rfl (Contains_fs hH13 hSbI (by simp; omega) (p : Int)) ?_
  rintro _ H14 ⟨rfl, rfl⟩
  refine ⟨zSt, ?_⟩
  refine WD.op (by first | exact gN | exact gS rfl) rfl (OpV.neB (ne4 _ _) rfl rfl) rfl (stands_nil _ _) ?_
  have hin : (decide (xs.getD p 0 < best2.getD p 0) != decide ((p : Int) ∈ bl.map fun (x : Nat) => (x : Int))) = false := by
    have h1 : (p : Int) ∈ bl.map (fun (x : Nat) => (x : Int)) ↔ xs.getD p 0 < best2.getD p 0 := by
      rw [mem_castR, hbm, ← hpad]
      constructor
      · intro h2; have := h2.bot; omega
      · intro h2; exact .start (by omega)
    by_cases h2 : xs.getD p 0 < best2.getD p 0
    · rw [decide_eq_true h2, decide_eq_true (h1.2 h2)]; rfl
    · have h3 : ¬ (p : Int) ∈ bl.map (fun (x : Nat) => (x : Int)) := fun h4 => h2 (h1.1 h4)
      rw [decide_eq_false h2, decide_eq_false h3]; rfl
  rw [hin]
  clear hin hSbI
  refine WD.toWR rfl ?_
  repeat' (first | refine zA ?_ | (refine zM ?_; intro _ _) | refine zX ?_ | (refine zC ?_; intro _ _ _ _) | (refine zS ?_; intro _ _) | refine zO ?_ | (apply Ws <;> intro hg))
  -- the places of the basin
  have hSb3 : Sl ((bf, Ch.row 3 0 0 (ints far)) :: T) 1 vb (nodes bl) := hSb.cons
  have hSs3 : Sl ((bf, Ch.row 3 0 0 (ints far)) :: T) 1 vs (ints ss) := hSs.cons
  have hSv3 : Sl ((bf, Ch.row 3 0 0 (ints far)) :: T) 1 v (ints xs) := hSv2.cons
  have hbg : ∀ i, i < bl.length → bl.getD i 0 < xs.length ∧ ss.getD (bl.getD i 0) 0 = best2.getD p 0 ∧ xs.getD (bl.getD i 0) 0 < best2.getD p 0 := fun i hi => by
    have h1 : bl.getD i 0 ∈ bl := by rw [List.getD_eq_getElem?_getD, List.getElem?_eq_getElem hi]; exact List.getElem_mem hi
    have h2 := (hbm _).1 h1
    have h3 := h2.lt hp
    have h4 := h2.top
    rw [hpad] at h4
    exact ⟨h3, by rw [hssg _ h3]; exact basin_sill hh hc6 h0 hl2 hp h2, by omega⟩
  refine WC.loopX [(5, _), (6, _), (7, _), (8, _), (14, _), (217, _), (218, _)] (fun i : Nat => [(219, .int .i64 (i : Int))]) []
    (fun i H => i ≤ bl.length ∧ H = H14) (fun i => bl.length - i) 0 (by repeat' (first | exact .nil | refine .cons rfl ?_)) rfl ⟨Nat.zero_le _, rfl⟩ ?_
  rintro i _ ⟨hi, rfl⟩
  dsimp only [List.cons_append, List.nil_append]
  repeat' (first | refine zA ?_ | (refine zM ?_; intro _ _) | refine zX ?_ | (refine zC ?_; intro _ _ _ _) | (refine zS ?_; intro _ _) | (apply Ws <;> intro hg))
  refine WC.condP rfl (fun hlt => ?_) (fun hlt => ?_)
  · have hi' : i < bl.length := by omega
    obtain ⟨hx1, hx2, hx3⟩ := hbg i hi'
    repeat' (first | refine zA ?_ | (refine zM ?_; intro _ _) | refine zX ?_ | (refine zC ?_; intro _ _ _ _) | (refine zS ?_; intro _ _) | refine zO ?_ | (apply Ws <;> intro hg))
    exact Ends.loop (i + 1) (by omega) (by repeat' (first | exact .nil | refine .cons rfl ?_)) rfl ⟨hi', rfl⟩
  repeat' (first | refine zA ?_ | (refine zM ?_; intro _ _) | refine zX ?_ | (refine zC ?_; intro _ _ _ _) | (refine zS ?_; intro _ _) | (apply Ws <;> intro hg))
  refine WR.call (by first | exact gN | exact gS rfl) rfl rfl (FS.works (C := C) (R := fun v H' => v = .bool true) rfl) ?_
  rintro _ _ rfl
  repeat' (first | refine zA ?_ | (refine zM ?_; intro _ _) | refine zX ?_ | (refine zC ?_; intro _ _ _ _) | (refine zS ?_; intro _ _) | (apply Ws <;> intro hg))
  exact Ends.ret1 rfl rfl
end Go.Proofs.Ytmogipomnjihcaa.Eb
