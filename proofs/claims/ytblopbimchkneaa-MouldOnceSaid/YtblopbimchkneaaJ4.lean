/- Texts of the law, joined. -/
import Derived.Test.YtblopbimchkneaaJ2
import Derived.Test.YtblopbimchkneaaJ3
import Derived.Test.YtblopbimchkneaaSymK
import Derived.Test.YtblopbimchkneaaSymR
import Derived.Test.YtblopbimchkneaaJ1
namespace Go.Proofs.Ytblopbimchkneaa.Md
open Go Go.Abs Go.Mth
set_option linter.unusedVariables false
set_option linter.unusedSimpArgs false
attribute [local irreducible] gOK WS WC WR WD Ends FS YS OpV seqK blockK loopK midK retK rdK asgK rangeEnd sat Cell
section
variable {M : HL} {n0 : Nat} {H : Heap}
set_option maxHeartbeats 4000000 in
theorem made0_fs (hH : hasH M n0 H) {a b c : Int} {hs : List Int} (ha : 0 ≤ a ∧ a ≤ 255) (hb : 0 ≤ b ∧ b ≤ 255) (hc : 0 ≤ c ∧ c ≤ 255) (hl : hs.length = 14) (hu : ∀ x ∈ hs, 0 ≤ x ∧ x ≤ 255) {most many : Nat} (hmo : 1 ≤ most ∧ most ≤ 6) (hma : many ≤ 8) :
    FS C 36 [.agg (trayV a b c hs).toArray, .int .i64 (most : Int), .int .i64 (many : Int)] H (fun e H' => ∃ (N : Nat) (ns : List Nat) (v : Value) (Mx : HL) (n' : Nat), e = .tuple #[.int .i64 (N : Int), v] ∧ 1 ≤ N ∧ N ≤ most ∧ ns.length ≤ many ∧ (∀ x ∈ ns, x < 2 ^ N) ∧ Own 3 1 v (nodes ns) Mx ∧ n0 ≤ n' ∧ hasH (Mx ++ M) n' H' ∧ (ns = [] → v = .slice none 0 0)) := by
  have hone := tray_one a b c hs
  refine FS.intro (pf := pf36) rfl rfl rfl ?_
  repeat' (first | refine zP ?_ | refine zA ?_ | (refine zM ?_; intro _ _) | refine zX ?_ | (refine zC ?_; intro _ _ _ _) | (refine zS ?_; intro _ _))
  rename_i H1 hH1
  refine WR.op (by first | exact gN | exact gS rfl) rfl (OpV.conv u8k i64k rfl (c := a) (IntWalk.i64_in _ (by omega))) ?_
  obtain ⟨an, rfl⟩ : ∃ an : Nat, a = an := ⟨a.toNat, by omega⟩
  obtain ⟨bn, rfl⟩ : ∃ bn : Nat, b = bn := ⟨b.toNat, by omega⟩
  obtain ⟨cn, rfl⟩ : ∃ cn : Nat, c = cn := ⟨c.toNat, by omega⟩
  have hmod := Nat.mod_lt an (show 0 < most by omega)
  have hmodb := Nat.mod_lt bn (show 0 < many + 1 by omega)
  repeat' (first | refine zP ?_ | refine zA ?_ | (refine zM ?_; intro _ _) | refine zX ?_ | (refine zC ?_; intro _ _ _ _) | (refine zS ?_; intro _ _) | (apply Ws <;> intro hg))
  rw [show (an : Int) % (most : Int) = ((an % most : Nat) : Int) by simp]
  obtain ⟨r, hr⟩ : ∃ r, an % most = r := ⟨_, rfl⟩
  rw [hr] at hmod ⊢
  repeat' (first | refine zP ?_ | refine zA ?_ | (refine zM ?_; intro _ _) | refine zX ?_ | (refine zC ?_; intro _ _ _ _) | (refine zS ?_; intro _ _) | (apply Ws <;> intro hg))
  rw [show (1 : Int) + (r : Int) = ((1 + r : Nat) : Int) by omega]
  obtain ⟨N, hN⟩ : ∃ N, 1 + r = N := ⟨_, rfl⟩
  have hN6 : 1 ≤ N ∧ N ≤ most := by omega
  rw [hN]
  clear hN hr hmod
  repeat' (first | refine zP ?_ | refine zA ?_ | (refine zM ?_; intro _ _) | refine zX ?_ | (refine zC ?_; intro _ _ _ _) | (refine zS ?_; intro _ _) | (apply Ws <;> intro hg))
  refine WC.loopX [(1, _), (2, _), (3, _), (8, _), (23, _)] (fun s : NV => [(9, s.v), (24, .int .i64 (s.k : Int))]) []
    (fun s H' => s.k ≤ N ∧ n0 + 1 ≤ s.n ∧ s.l.length = s.k ∧ (∀ i, i < s.k → s.l.getD i 0 < 2 ^ (i + 1)) ∧ ((s.k = 0 ∧ s.v = .slice none 0 0 ∧ s.Mx = []) ∨ OwnR 3 1 s.v (nodes s.l) s.Mx) ∧ hasH ((n0, .row 44 0 0 (trayV an bn cn hs)) :: (s.Mx ++ M)) s.n H') (fun s => N - s.k) ⟨0, .slice none 0 0, [], [], n0 + 1⟩ (by repeat' (first | exact .nil | refine .cons rfl ?_)) rfl
    ⟨Nat.zero_le _, Nat.le_refl _, rfl, fun i h => absurd h (Nat.not_lt_zero _), .inl ⟨rfl, rfl, rfl⟩, hH1⟩ ?_
  clear hH1
  rintro ⟨k, v, ps, Mx, n1⟩ H2 ⟨hk, hn1, hpl, hpb, hO, hH2⟩
  simp only at hk hn1 hpl hpb hO hH2
  have hOwn : Own 3 1 v (nodes ps) Mx := by
    rcases hO with ⟨h1, rfl, rfl⟩ | h
    · rw [List.length_eq_zero_iff.1 (hpl.trans h1)]; exact .nil
    · exact h.own
  dsimp only [List.cons_append, List.nil_append]
  repeat' (first | refine zP ?_ | refine zA ?_ | (refine zM ?_; intro _ _) | refine zX ?_ | (refine zC ?_; intro _ _ _ _) | (refine zS ?_; intro _ _) | (apply Ws <;> intro hg))
  refine WC.condP rfl (fun hlt => ?_) (fun hlt => ?_)
  · have hk' : k < N := by omega
    have hkl : 8 + k < hs.length := by omega
    have hx0 := hu _ (getD_mem (a := 0) hkl)
    obtain ⟨x, hx⟩ : ∃ x : Nat, hs.getD (8 + k) 0 = x := ⟨(hs.getD (8 + k) 0).toNat, by omega⟩
    repeat' (first | refine zP ?_ | refine zA ?_ | (refine zM ?_; intro _ _) | refine zX ?_ | (refine zC ?_; intro _ _ _ _) | (refine zS ?_; intro _ _) | (apply Ws <;> intro hg))
    refine WR.op (by first | exact gN | exact gS rfl) rfl (OpV.load1 (v := .int .u8 (hs.getD (8 + k) 0)) rfl hH2 (.head _) (.row _ _ _ _) (Nat.zero_le _) (by rw [show 11 + k - 0 = 8 + k + 3 by omega]; exact tray_get hkl)) ?_
    rw [hx]
    refine WR.op (by first | exact gN | exact gS rfl) rfl (OpV.conv u8k i64k rfl (c := (x : Int)) (IntWalk.i64_in _ (by omega))) ?_
    repeat' (first | refine zP ?_ | refine zA ?_ | (refine zM ?_; intro _ _) | refine zX ?_ | (refine zC ?_; intro _ _ _ _) | (refine zS ?_; intro _ _) | (apply Ws <;> intro hg))
    rw [show (x : Int) % ((k : Int) + 1) = ((x % (k + 1) : Nat) : Int) by simp]
    have hp := Nat.mod_lt x (show 0 < k + 1 by omega)
    obtain ⟨p, hpp⟩ : ∃ p, x % (k + 1) = p := ⟨_, rfl⟩
    rw [hpp] at hp ⊢
    repeat' (first | refine zP ?_ | refine zA ?_ | (refine zM ?_; intro _ _) | refine zX ?_ | (refine zC ?_; intro _ _ _ _) | (refine zS ?_; intro _ _) | (apply Ws <;> intro hg))
    refine WR.op (by first | exact gN | exact gS rfl) rfl (OpV.shl1 rfl rfl (by show k ≤ 64; omega) (pow_lt_63 (by omega))) ?_
    repeat' (first | refine zP ?_ | refine zA ?_ | (refine zM ?_; intro _ _) | refine zX ?_ | (refine zC ?_; intro _ _ _ _) | (refine zS ?_; intro _ _) | (apply Ws <;> intro hg))
    refine WC.joinX [(1, _), (2, _), (3, _), (8, _), (9, _), (10, _), (23, _), (24, _)] (by repeat' (first | exact .nil | refine .cons rfl ?_)) (fun w : Nat => [(12, .int .i64 (w : Int))]) (fun w H' => H' = H2 ∧ w < 2 ^ (k + 1)) ?_ ?_
    · refine WC.condP rfl (fun h2 => ?_) (fun h2 => ?_)
      · have hSp : Sl ((n0, .row 44 0 0 (trayV an bn cn hs)) :: (Mx ++ M)) 1 v (nodes ps) := (hOwn.sl M).cons
        have hpb' := hpb p (by omega)
        have hle : ps.getD p 0 < 2 ^ (k + 1) := Nat.lt_of_lt_of_le hpb' (Nat.pow_le_pow_right (by omega) (by omega))
        have h63 := pow_lt_63 (N := k + 1) (by omega)
        repeat' (first | refine zP ?_ | refine zA ?_ | (refine zM ?_; intro _ _) | refine zX ?_ | (refine zC ?_; intro _ _ _ _) | (refine zS ?_; intro _ _) | (apply Ws <;> intro hg))
        refine WR.op (by first | exact gN | exact gS rfl) rfl (OpV.orN rfl rfl (by show 2 ^ k < 2 ^ 63; exact pow_lt_63 (by omega)) (by show ps.getD p 0 < 2 ^ 63; omega)) ?_
        repeat' (first | refine zP ?_ | refine zA ?_ | (refine zM ?_; intro _ _) | refine zX ?_ | (refine zC ?_; intro _ _ _ _) | (refine zS ?_; intro _ _) | (apply Ws <;> intro hg))
        exact Ends.midX (2 ^ k ||| ps.getD p 0) (by repeat' (first | exact .nil | refine .cons rfl ?_)) ⟨rfl, Nat.or_lt_two_pow (Nat.pow_lt_pow_right (by omega) (by omega)) hle⟩
      · repeat' (first | refine zP ?_ | refine zA ?_ | (refine zM ?_; intro _ _) | refine zX ?_ | (refine zC ?_; intro _ _ _ _) | (refine zS ?_; intro _ _) | (apply Ws <;> intro hg))
        exact Ends.midX (2 ^ k) (by repeat' (first | exact .nil | refine .cons rfl ?_)) ⟨rfl, Nat.pow_lt_pow_right (by omega) (by omega)⟩
    rintro w H3 ⟨rfl, hw⟩
    dsimp only [List.cons_append, List.nil_append]
    repeat' (first | refine zP ?_ | refine zA ?_ | (refine zM ?_; intro _ _) | refine zX ?_ | (refine zC ?_; intro _ _ _ _) | (refine zS ?_; intro _ _) | (apply Ws <;> intro hg))
    refine WR.append1RF [(n0, .row 44 0 0 (trayV an bn cn hs))] Mx M rfl rfl rfl rfl hOwn hH2 (new := [.int .i64 (w : Int)]) (by rfl) rfl rfl (Nat.le_refl _) (by omega) (by simp; omega) fun v3 M3 n3 H6 hO3 hH6 hn3 => ?_
    repeat' (first | refine zP ?_ | refine zA ?_ | (refine zM ?_; intro _ _) | refine zX ?_ | (refine zC ?_; intro _ _ _ _) | (refine zS ?_; intro _ _) | (apply Ws <;> intro hg))
    refine Ends.loop ⟨k + 1, v3, ps ++ [w], M3, n3⟩ (by show N - (k + 1) < N - k; omega) (by repeat' (first | exact .nil | refine .cons rfl ?_)) rfl ⟨hk', by simp only; omega, by simp [hpl], fun i hi => ?_, .inr ?_, hH6⟩
    · replace hi : i < k + 1 := hi
      simp only
      rcases Nat.lt_or_ge i k with h3 | h3
      · rw [getD_app_l (by omega)]; exact hpb i h3
      · have : i = ps.length := by omega
        subst this
        rw [getD_snoc, hpl]; exact hw
    · simp only
      simpa [nodes] using hO3
  have hkN : N = k := by omega
  subst hkN
  clear hOwn hlt hk
  rcases hO with ⟨h1, _⟩ | hO
  · omega
  have hPl : ∀ i, i < N → ps.getD i 0 < 2 ^ N := fun i hi => Nat.lt_of_lt_of_le (hpb i hi) (Nat.pow_le_pow_right (by omega) (by omega))
  clear hpb
  cases hO with
  | mk hlp =>
  rename_i pb pu po plen
  have hplen : N = plen := by simp [nodes] at hlp; omega
  subst hplen
  simp only [List.cons_append, List.nil_append] at hH2
  have hmP : (pb, Ch.row 3 pu po (nodes ps)) ∈ (pb, Ch.row 3 pu po (nodes ps)) :: M := .head _
  have hbackP : ∀ {M' : HL} {n' : Nat} {H' : Heap}, hasH (M' ++ (pb, Ch.row 3 pu po (nodes ps)) :: M) n' H' → hasH (M' ++ M) n' H' := fun h => h.sub (List.Sublist.append_left (List.sublist_cons_self _ _) _)
  generalize (pb, Ch.row 3 pu po (nodes ps)) :: M = T at hH2 hmP hbackP
  repeat' (first | refine zP ?_ | refine zA ?_ | (refine zM ?_; intro _ _) | refine zX ?_ | (refine zC ?_; intro _ _ _ _) | (refine zS ?_; intro _ _) | (apply Ws <;> intro hg))
  refine WR.op (by first | exact gN | exact gS rfl) rfl (OpV.conv u8k i64k rfl (c := (bn : Int)) (IntWalk.i64_in _ (by omega))) ?_
  repeat' (first | refine zP ?_ | refine zA ?_ | (refine zM ?_; intro _ _) | refine zX ?_ | (refine zC ?_; intro _ _ _ _) | (refine zS ?_; intro _ _) | (apply Ws <;> intro hg))
  rw [show (bn : Int) % ((many : Int) + 1) = ((bn % (many + 1) : Nat) : Int) by simp]
  obtain ⟨m, hm⟩ : ∃ m, bn % (many + 1) = m := ⟨_, rfl⟩
  rw [hm] at hmodb ⊢
  refine WR.op (by first | exact gN | exact gS rfl) rfl (OpV.slAh rfl rfl (by omega) (by decide)) ?_
  repeat' (first | refine zP ?_ | refine zA ?_ | (refine zM ?_; intro _ _) | refine zX ?_ | (refine zC ?_; intro _ _ _ _) | (refine zS ?_; intro _ _) | (apply Ws <;> intro hg))
  refine WC.loopX [(1, _), (2, _), (3, _), (8, _), (9, _), (58, _), (59, _)] (fun s : NV => [(13, s.v), (60, .int .i64 (s.k : Int))]) []
    (fun s H' => s.k ≤ m ∧ n0 + 1 ≤ s.n ∧ s.l.length = s.k ∧ (∀ x ∈ s.l, x < 2 ^ N) ∧ Own 3 1 s.v (nodes s.l) s.Mx ∧ hasH ((n0, .row 44 0 0 (trayV an bn cn hs)) :: (s.Mx ++ T)) s.n H' ∧ (s.l = [] → s.v = .slice none 0 0)) (fun s => m - s.k) ⟨0, .slice none 0 0, [], [], n1⟩ (by repeat' (first | exact .nil | refine .cons rfl ?_)) rfl
    ⟨Nat.zero_le _, hn1, rfl, fun x h => (by cases h), .nil, hH2, fun _ => rfl⟩ ?_
  clear hH2 hn1
  rintro ⟨k, v, ns, Mx, n2⟩ H3 ⟨hk, hn2, hnl, hnb, hO, hH3, hz⟩
  simp only at hk hn2 hnl hnb hO hH3 hz
  have hmP3 := List.mem_cons_of_mem (n0, Ch.row 44 0 0 (trayV an bn cn hs)) (List.mem_append_right Mx hmP)
  dsimp only [List.cons_append, List.nil_append]
  repeat' (first | refine zP ?_ | refine zA ?_ | (refine zM ?_; intro _ _) | refine zX ?_ | (refine zC ?_; intro _ _ _ _) | (refine zS ?_; intro _ _) | (apply Ws <;> intro hg))
  refine WC.condP rfl (fun hlt => ?_) (fun hlt => ?_)
  · have hk' : k < m := by omega
    have hkl : k < hs.length := by omega
    have hx0 := hu _ (getD_mem (a := 0) hkl)
    obtain ⟨x, hx⟩ : ∃ x : Nat, hs.getD k 0 = x := ⟨(hs.getD k 0).toNat, by omega⟩
    repeat' (first | refine zP ?_ | refine zA ?_ | (refine zM ?_; intro _ _) | refine zX ?_ | (refine zC ?_; intro _ _ _ _) | (refine zS ?_; intro _ _) | (apply Ws <;> intro hg))
    refine WR.op (by first | exact gN | exact gS rfl) rfl (OpV.load1 (v := .int .u8 (hs.getD k 0)) rfl hH3 (.head _) (.row _ _ _ _) (Nat.zero_le _) (by rw [show 3 + k - 0 = k + 3 by omega]; exact tray_get hkl)) ?_
    rw [hx]
    repeat' (first | refine zP ?_ | refine zA ?_ | (refine zM ?_; intro _ _) | refine zX ?_ | (refine zC ?_; intro _ _ _ _) | (refine zS ?_; intro _ _) | (apply Ws <;> intro hg))
    refine WR.op (by first | exact gN | exact gS rfl) rfl (OpV.conv u8k i64k rfl (c := (x : Int)) (IntWalk.i64_in _ (by omega))) ?_
    repeat' (first | refine zP ?_ | refine zA ?_ | (refine zM ?_; intro _ _) | refine zX ?_ | (refine zC ?_; intro _ _ _ _) | (refine zS ?_; intro _ _) | (apply Ws <;> intro hg))
    refine WR.op (by first | exact gN | exact gS rfl) rfl (OpV.shl1 rfl rfl (by show N ≤ 64; omega) (pow_lt_63 (by omega))) ?_
    have hNp : 0 < 2 ^ N := Nat.two_pow_pos N
    have h62 := pow_le_62 (N := N) (by omega)
    have hxm := Nat.mod_lt x hNp
    repeat' (first | refine zP ?_ | refine zA ?_ | (refine zM ?_; intro _ _) | refine zX ?_ | (refine zC ?_; intro _ _ _ _) | (refine zS ?_; intro _ _) | (apply Ws <;> intro hg))
    rw [show (x : Int) % ((2 ^ N : Nat) : Int) = ((x % 2 ^ N : Nat) : Int) by simp]
    obtain ⟨y, hy⟩ : ∃ y, x % 2 ^ N = y := ⟨_, rfl⟩
    rw [hy] at hxm ⊢
    repeat' (first | refine zP ?_ | refine zA ?_ | (refine zM ?_; intro _ _) | refine zX ?_ | (refine zC ?_; intro _ _ _ _) | (refine zS ?_; intro _ _) | (apply Ws <;> intro hg))
    have hstep : ∀ {w : Nat}, w < 2 ^ N → w < 2 ^ 62 := fun h => by omega
    refine WC.joinX [(1, _), (2, _), (3, _), (8, _), (9, _), (13, _), (14, _), (15, _), (58, _), (59, _), (60, _)] (by repeat' (first | exact .nil | refine .cons rfl ?_)) (fun s : Nat × Nat => [(16, .int .i64 (s.1 : Int))]) (fun s H' => s.1 < 2 ^ N ∧ n0 + 1 ≤ s.2 ∧ hasH ((n0, .row 44 0 0 (trayV an bn cn hs)) :: (Mx ++ T)) s.2 H') ?_ ?_
    · refine WC.condP rfl (fun h2 => ?_) (fun h2 => ?_)
      · refine WC.regionD ?_
        repeat' (first | refine zD ?_ | (refine zE ?_; intro _ _ _ _))
        refine WD.op (by first | exact gN | exact gS rfl) rfl (OpV.conv u8k i64k rfl (c := (x : Int)) (IntWalk.i64_in _ (by omega))) rfl (stands_nil _ _) ?_
        repeat' (first | refine zD ?_ | (refine zE ?_; intro _ _ _ _))
        rw [show (x : Int) % ((N : Int) + 1) = ((x % (N + 1) : Nat) : Int) by simp]
        have hq := Nat.mod_lt x (show 0 < N + 1 by omega)
        obtain ⟨q, hqq⟩ : ∃ q, x % (N + 1) = q := ⟨_, rfl⟩
        rw [hqq] at hq ⊢
        refine WD.bldS (by first | exact gN | exact gS rfl) rfl hH3 (vs := [(0, .int .i64 0)]) rfl (cs := [.int .i64 0]) (by rfl) rfl (fun H8 hH8 => zSt) fun H8 hH8 => ?_
        refine WD.appendKeep (y := .int .i64 0) (by first | exact gN | exact gS rfl) rfl rfl rfl hH8 (List.mem_cons_of_mem _ hmP3) (by simpa [nodes] using hpl) rfl (by
          have := hH8.readN (b := n2) (u := 0) (lo := 0) (o := 0) (k := 1) (.head _) (.row _ _ _ _) (Nat.le_refl _) (by simp)
          simpa [srcCells] using this) rfl (by omega) fun tp H9 hH9 hrd => ⟨zSt, ?_⟩
        refine WD.op (by first | exact gN | exact gS rfl) rfl (OpV.idxS rfl rfl rfl (m := q) (by omega) rfl) rfl (stands_nil _ _) ?_
        obtain ⟨w, hw, hwq⟩ : ∃ w : Nat, w < 2 ^ N ∧ (nodes ps ++ [Value.int .i64 0])[q]? = some (.int .i64 (w : Int)) := by
          by_cases h : q < N
          · exact ⟨ps.getD q 0, hPl q h, by rw [List.getElem?_append_left (by simp; omega), List.getElem?_map, List.getElem?_eq_getElem (by omega), getD_eq (by omega)]; rfl⟩
          · have : q = (nodes ps).length := by simp; omega
            exact ⟨0, hNp, by rw [this, List.getElem?_append_right (Nat.le_refl _)]; simp⟩
        refine WD.load1 (v := .int .i64 (w : Int)) (by first | exact gN | exact gS rfl) rfl rfl (hrd (q * 1) _ (by rw [Nat.mul_one]; exact hwq)) ?_
        repeat' (first | refine zD ?_ | (refine zE ?_; intro _ _ _ _))
        refine WD.nil ?_
        repeat' (first | refine zP ?_ | refine zA ?_ | (refine zM ?_; intro _ _) | refine zX ?_ | (refine zC ?_; intro _ _ _ _) | (refine zS ?_; intro _ _) | (apply Ws <;> intro hg))
        exact Ends.midX (w, n2 + 1) (by repeat' (first | exact .nil | refine .cons rfl ?_)) ⟨hw, by simp only; omega, hH9.tail⟩
      · repeat' (first | refine zP ?_ | refine zA ?_ | (refine zM ?_; intro _ _) | refine zX ?_ | (refine zC ?_; intro _ _ _ _) | (refine zS ?_; intro _ _) | (apply Ws <;> intro hg))
        exact Ends.midX (y, n2) (by repeat' (first | exact .nil | refine .cons rfl ?_)) ⟨hxm, hn2, hH3⟩
    clear hH3 hn2
    rintro ⟨w, n3⟩ H4 ⟨hw, hn3, hH4⟩
    simp only at hw hn3 hH4
    have hmP4 := hmP3
    dsimp only [List.cons_append, List.nil_append]
    have happ : ∀ {z : Nat}, z < 2 ^ N → ∀ x ∈ ns ++ [z], x < 2 ^ N := fun hz x hx => by
      rcases List.mem_append.1 hx with h | h
      · exact hnb x h
      · obtain rfl := List.mem_singleton.1 h
        exact hz
    by_cases h4 : (cn : Int) % 4 = 3
    · by_cases hk0 : (k : Int) = 0
      · repeat' (first | refine zP ?_ | refine zA ?_ | (refine zM ?_; intro _ _) | refine zX ?_ | (refine zC ?_; intro _ _ _ _) | (refine zS ?_; intro _ _) | refine zO ?_ | (apply Ws <;> intro hg))
        refine WR.op (by first | exact gN | exact gS rfl) rfl (OpV.conv u8k i64k rfl (c := (x : Int)) (IntWalk.i64_in _ (by omega))) ?_
        repeat' (first | refine zP ?_ | refine zA ?_ | (refine zM ?_; intro _ _) | refine zX ?_ | (refine zC ?_; intro _ _ _ _) | (refine zS ?_; intro _ _) | refine zO ?_ | (apply Ws <;> intro hg))
        rw [show (x : Int) % (N : Int) = ((x % N : Nat) : Int) by simp]
        have hq := Nat.mod_lt x (show 0 < N by omega)
        obtain ⟨q, hqq⟩ : ∃ q, x % N = q := ⟨_, rfl⟩
        rw [hqq] at hq ⊢
        refine WR.op (by first | exact gN | exact gS rfl) rfl (OpV.shl1 rfl rfl (by show q ≤ 64; omega) (pow_lt_63 (by omega))) ?_
        refine WR.op (by first | exact gN | exact gS rfl) rfl (OpV.xorN rfl rfl (by show w < 2 ^ 63; omega) (by show 2 ^ q < 2 ^ 63; exact pow_lt_63 (by omega))) ?_
        have hw2 : w ^^^ 2 ^ q < 2 ^ N := Nat.xor_lt_two_pow hw (Nat.pow_lt_pow_right (by omega) hq)
        obtain ⟨w2, hww⟩ : ∃ w2, w ^^^ 2 ^ q = w2 := ⟨_, rfl⟩
        rw [hww] at hw2 ⊢
        repeat' (first | refine zP ?_ | refine zA ?_ | (refine zM ?_; intro _ _) | refine zX ?_ | (refine zC ?_; intro _ _ _ _) | (refine zS ?_; intro _ _) | (apply Ws <;> intro hg))
        refine WR.append1F [(n0, .row 44 0 0 (trayV an bn cn hs))] Mx T rfl rfl rfl rfl hO hH4 (new := [.int .i64 (w2 : Nat)]) (by rfl) rfl rfl (Nat.le_refl _) (by omega) (by simp; omega) fun v5 M5 n5 H5 hO5 hH5 hn5 => ?_
        repeat' (first | refine zP ?_ | refine zA ?_ | (refine zM ?_; intro _ _) | refine zX ?_ | (refine zC ?_; intro _ _ _ _) | (refine zS ?_; intro _ _) | (apply Ws <;> intro hg))
        exact Ends.loop ⟨k + 1, v5, ns ++ [w2], M5, n5⟩ (by show m - (k + 1) < m - k; omega) (by repeat' (first | exact .nil | refine .cons rfl ?_)) rfl ⟨hk', by simp only; omega, by simp [hnl], happ (by first | exact hw | exact hw2), by simpa [nodes] using hO5, hH5, fun h => absurd h (by simp)⟩
      · repeat' (first | refine zP ?_ | refine zA ?_ | (refine zM ?_; intro _ _) | refine zX ?_ | (refine zC ?_; intro _ _ _ _) | (refine zS ?_; intro _ _) | refine zO ?_ | (apply Ws <;> intro hg))
        refine WR.append1F [(n0, .row 44 0 0 (trayV an bn cn hs))] Mx T rfl rfl rfl rfl hO hH4 (new := [.int .i64 (w : Nat)]) (by rfl) rfl rfl (Nat.le_refl _) (by omega) (by simp; omega) fun v5 M5 n5 H5 hO5 hH5 hn5 => ?_
        repeat' (first | refine zP ?_ | refine zA ?_ | (refine zM ?_; intro _ _) | refine zX ?_ | (refine zC ?_; intro _ _ _ _) | (refine zS ?_; intro _ _) | (apply Ws <;> intro hg))
        exact Ends.loop ⟨k + 1, v5, ns ++ [w], M5, n5⟩ (by show m - (k + 1) < m - k; omega) (by repeat' (first | exact .nil | refine .cons rfl ?_)) rfl ⟨hk', by simp only; omega, by simp [hnl], happ (by first | exact hw | exact hw2), by simpa [nodes] using hO5, hH5, fun h => absurd h (by simp)⟩
    · repeat' (first | refine zP ?_ | refine zA ?_ | (refine zM ?_; intro _ _) | refine zX ?_ | (refine zC ?_; intro _ _ _ _) | (refine zS ?_; intro _ _) | refine zO ?_ | (apply Ws <;> intro hg))
      refine WR.append1F [(n0, .row 44 0 0 (trayV an bn cn hs))] Mx T rfl rfl rfl rfl hO hH4 (new := [.int .i64 (w : Nat)]) (by rfl) rfl rfl (Nat.le_refl _) (by omega) (by simp; omega) fun v5 M5 n5 H5 hO5 hH5 hn5 => ?_
      repeat' (first | refine zP ?_ | refine zA ?_ | (refine zM ?_; intro _ _) | refine zX ?_ | (refine zC ?_; intro _ _ _ _) | (refine zS ?_; intro _ _) | (apply Ws <;> intro hg))
      exact Ends.loop ⟨k + 1, v5, ns ++ [w], M5, n5⟩ (by show m - (k + 1) < m - k; omega) (by repeat' (first | exact .nil | refine .cons rfl ?_)) rfl ⟨hk', by simp only; omega, by simp [hnl], happ (by first | exact hw | exact hw2), by simpa [nodes] using hO5, hH5, fun h => absurd h (by simp)⟩
  · have hkm : m = k := by omega
    subst hkm
    repeat' (first | refine zP ?_ | refine zA ?_ | (refine zM ?_; intro _ _) | refine zX ?_ | (refine zC ?_; intro _ _ _ _) | (refine zS ?_; intro _ _) | (apply Ws <;> intro hg))
    exact Ends.ret2 rfl rfl ⟨N, ns, v, Mx, n2, rfl, by omega, by omega, by omega, hnb, hO, by omega, hbackP hH3.tail, hz⟩
end
end Go.Proofs.Ytblopbimchkneaa.Md

namespace Go.Proofs.Ytblopbimchkneaa.Md
open Go Go.Abs Go.Mth
set_option linter.unusedVariables false
set_option linter.unusedSimpArgs false
def leaveTo (ns : List Nat) (s k : Nat) : List Nat := ((List.range k).filter fun i => !s.testBit i).map fun i => ns.getD i 0
def leave (ns : List Nat) (s : Nat) : List Nat := leaveTo ns s ns.length
def wearL (ns : List Nat) (s : Nat) : List Nat := ns.map fun c => c ^^^ (c &&& s)
def forgP (N : Nat) (ns : List Nat) (s : Nat) : Bool := honB N (leave ns s)
def wornP (N : Nat) (ns : List Nat) (s : Nat) : Bool := honB N (wearL ns s)
attribute [local irreducible] gOK WS WC WR WD Ends FS YS OpV seqK blockK loopK midK retK rdK asgK rangeEnd sat Cell

section
variable {M : HL} {n0 : Nat} {H : Heap} {v w : Value} {ns : List Nat}
end
end Go.Proofs.Ytblopbimchkneaa.Md

namespace Go.Proofs.Ytblopbimchkneaa.Md
open Go Go.Abs Go.Mth
set_option linter.unusedVariables false
set_option linter.unusedSimpArgs false
attribute [local irreducible] gOK WS WC WR WD Ends FS YS OpV seqK blockK loopK midK retK rdK asgK rangeEnd sat Cell
section
variable {M : HL} {n0 : Nat} {H : Heap} {v w : Value} {ns : List Nat}
end
end Go.Proofs.Ytblopbimchkneaa.Md

namespace Go.Proofs.Ytblopbimchkneaa.Md
open Go Go.Abs Go.Mth
set_option linter.unusedVariables false
set_option linter.unusedSimpArgs false
/-! A cast more, a cast less. -/
theorem LeastR.min {n : Nat} {P : Nat → Bool} {r : List Nat} (h : LeastR n P r) {t : Nat} (ht : t < 2 ^ n) (hP : P t = true) : r.length ≤ (bitsL t n).length := by
  obtain ⟨s, _, _, _, h4⟩ := h
  rcases Nat.lt_or_ge (bitsL t n).length r.length with h1 | h1
  · refine absurd ?_ (h4 t ht hP)
    have : cmpI ((IL (bitsL t n)).length : Int) ((IL r).length : Int) = -1 := by unfold cmpI; rw [if_pos (by simp; omega)]
    unfold ordC; rw [this, if_pos (by decide)]; decide
  · exact h1
attribute [local irreducible] gOK WS WC WR WD Ends FS YS OpV seqK blockK loopK midK retK rdK asgK rangeEnd sat Cell
section
variable {M : HL} {n0 : Nat} {H : Heap} {v w : Value} {ns : List Nat}
end
end Go.Proofs.Ytblopbimchkneaa.Md

namespace Go.Proofs.Ytblopbimchkneaa.Md
open Go Go.Abs Go.Mth
set_option linter.unusedVariables false
set_option linter.unusedSimpArgs false
/-! Other numbers of the marks, and another order of the casts. -/
structure Ren (N : Nat) (g h : Nat → Nat) : Prop where
  gb : ∀ x, x < N → g x < N
  hb : ∀ x, x < N → h x < N
  gh : ∀ x, x < N → g (h x) = x
  hg : ∀ x, x < N → h (g x) = x
theorem Ren.sym {N : Nat} {g h : Nat → Nat} (r : Ren N g h) : Ren N h g := ⟨r.hb, r.gb, r.hg, r.gh⟩
/-- A set with other numbers. -/
def img (g : Nat → Nat) (n s : Nat) : Nat := maskN ((bitsL s n).map g)
theorem hon_ren {N : Nat} {g h : Nat → Nat} (r : Ren N g h) {l k : List Nat} (hk : ∀ y ∈ k, ∃ x ∈ l, ∀ a, a < N → y.testBit (g a) = x.testBit a) (hh : honB N l = true) : honB N k = true := hon_iff.2 fun a b hab hb => by
  have ha : a < N := by omega
  have hcl : ∀ y ∈ k, ∃ x ∈ l, y.testBit a = x.testBit (h a) ∧ y.testBit b = x.testBit (h b) := fun y hy => by
    obtain ⟨x, hx, h1⟩ := hk y hy
    have e1 := h1 (h a) (r.hb a ha)
    have e2 := h1 (h b) (r.hb b hb)
    rw [r.gh a ha] at e1
    rw [r.gh b hb] at e2
    exact ⟨x, hx, e1, e2⟩
  have hno : clashB l (h a) (h b) = false := by
    have hne : h a ≠ h b := fun e => by
      have := r.gh a ha
      rw [e, r.gh b hb] at this
      omega
    rcases Nat.lt_or_gt_of_ne hne with h1 | h1
    · exact hon_iff.1 hh _ _ h1 (r.hb b hb)
    · rw [clash_comm]; exact hon_iff.1 hh _ _ h1 (r.hb a ha)
  cases hc : clashB k a b with
  | false => rfl
  | true =>
    obtain ⟨⟨x, hx, x1, x2⟩, ⟨y, hy, y1, y2⟩, ⟨z, hz, z1, z2⟩⟩ := clash_iff.1 hc
    obtain ⟨x', hx', e1, e2⟩ := hcl x hx
    obtain ⟨y', hy', e3, e4⟩ := hcl y hy
    obtain ⟨z', hz', e5, e6⟩ := hcl z hz
    rw [clash_iff.2 ⟨⟨x', hx', by rw [← e1, x1], by rw [← e2, x2]⟩, ⟨y', hy', by rw [← e3, y1], by rw [← e4, y2]⟩, ⟨z', hz', by rw [← e5, z1], by rw [← e6, z2]⟩⟩] at hno
    cases hno
/-- Casts with other numbers of marks, in another order. -/
structure RenC (N : Nat) (g h p q : Nat → Nat) (ns os : List Nat) : Prop where
  r : Ren N g h
  len : os.length = ns.length
  w : Ren ns.length p q
  bit : ∀ i, i < ns.length → ∀ a, a < N → (os.getD (p i) 0).testBit (g a) = (ns.getD i 0).testBit a
section
variable {N : Nat} {g h p q : Nat → Nat} {ns os : List Nat}
theorem RenC.sym (k : RenC N g h p q ns os) : RenC N h g q p os ns := by
  refine ⟨k.r.sym, k.len.symm, by rw [k.len]; exact k.w.sym, fun i hi a ha => ?_⟩
  rw [k.len] at hi
  have := k.bit (q i) (k.w.hb i hi) (h a) (k.r.hb a ha)
  rw [k.w.gh i hi, k.r.gh a ha] at this
  exact this.symm
theorem RenC.mem (k : RenC N g h p q ns os) {y : Nat} (hy : y ∈ os) : ∃ x ∈ ns, ∀ a, a < N → y.testBit (g a) = x.testBit a := by
  obtain ⟨j, hj, rfl⟩ := List.mem_iff_getElem.1 hy
  have hj' : j < ns.length := by rw [← k.len]; exact hj
  have hi := k.w.hb j hj'
  refine ⟨ns.getD (q j) 0, getD_mem hi, fun a ha => ?_⟩
  rw [← k.bit (q j) hi a ha, k.w.gh j hj', getD_eq hj]
theorem RenC.hon1 (k : RenC N g h p q ns os) (hh : honB N ns = true) : honB N os = true := hon_ren k.r (fun y hy => k.mem hy) hh
theorem RenC.hon (k : RenC N g h p q ns os) : honB N os = honB N ns := by
  rw [Bool.eq_iff_iff]
  exact ⟨k.sym.hon1, k.hon1⟩
end
end Go.Proofs.Ytblopbimchkneaa.Md

namespace Go.Proofs.Ytblopbimchkneaa.Md
open Go Go.Abs Go.Mth
set_option linter.unusedVariables false
set_option linter.unusedSimpArgs false
theorem nq4 : ∀ a b : Bool, pureRun C.c.P (binOp .neq 4 (.bool a) (.bool b)) = some (.bool (a != b)) := by
  intro a b
  cases a <;> cases b <;> kernel_rfl
/-- Whether three casts have been found, of those before. -/
def prov3 (ns : List Nat) (a b i j k : Nat) : Prop := provB ns a b i j k = true
attribute [local irreducible] gOK WS WC WR WD Ends FS YS OpV seqK blockK loopK midK retK rdK asgK rangeEnd sat Cell
section
variable {M : HL} {n0 : Nat} {H : Heap}
end
end Go.Proofs.Ytblopbimchkneaa.Md

namespace Go.Proofs.Ytblopbimchkneaa.Md
open Go Go.Abs Go.Mth
set_option linter.unusedVariables false
set_option linter.unusedSimpArgs false
def upTo (n : Nat) : List Int := (List.range n).map fun (x : Nat) => (x : Int)
structure PV where
  k : Nat
  cp : Nat
  R : Nat
  ys : List Int
  v : Value
  Mx : HL
  n : Nat
  o : List Int
structure OV where
  k : Nat
  v : Value
  Mx : HL
  n : Nat
/-- The other casts before they are turned round. -/
def othL (g : Nat → Nat) (N : Nat) (ns : List Nat) (t k : Nat) : List Nat := (List.range k).map fun j => img g N (ns.getD ((j + t) % ns.length) 0)
attribute [local irreducible] gOK WS WC WR WD Ends FS YS OpV seqK blockK loopK midK retK rdK asgK rangeEnd sat Cell
section
variable {M : HL} {n0 : Nat} {H : Heap} {o : List Int}
end
end Go.Proofs.Ytblopbimchkneaa.Md

namespace Go.Proofs.Ytblopbimchkneaa.Md
open Go Go.Abs Go.Mth
set_option linter.unusedVariables false
set_option linter.unusedSimpArgs false
theorem okO_set {N a : Nat} {o : List Int} {x : Int} (h : okO N o) (ha : a < N) (h1 : -1 ≤ x) (h2 : x < N) : okO N (o.set a x) := by
  refine ⟨by rw [List.length_set]; exact h.1, fun i hi => ?_⟩
  rw [getD_set' (by rw [h.1]; exact ha)]
  split
  · exact ⟨h1, h2⟩
  · exact h.2 i hi
theorem take_set {a : Nat} {o : List Int} {x : Int} (ha : a < o.length) : (o.set a x).take (a + 1) = o.take a ++ [x] := by
  rw [List.take_succ_eq_append_getElem (by simpa using ha), List.getElem_set_self, List.take_set_of_le (Nat.le_refl _)]
theorem acyc_no {N x : Nat} {o : List Int} (hx : x < N) (h : ¬ posO o (x : Int) N < 0) : acycB N o = false := by
  cases hc : acycB N o with
  | false => rfl
  | true => exact absurd (acyc_iff.1 hc x hx) h
structure QV where
  j : Nat
  o : List Int
  n : Nat
attribute [local irreducible] gOK WS WC WR WD Ends FS YS OpV seqK blockK loopK midK retK rdK asgK rangeEnd sat Cell
section
variable {N bm be bs bp bo bf : Nat} {g : FuncId} {vb : List Value} {P : List Int → Bool} {T : HL}
set_option maxHeartbeats 2000000 in
theorem oput_fs (hN1 : 1 ≤ N) (hN : N ≤ 6) (hmN : (bm, Ch.row 3 0 0 [.int .i64 (N : Int)]) ∈ T) (hmE : (be, Ch.row 48 0 0 [.func (.func g) [].toArray vb.toArray]) ∈ T)
    (hmS : (bs, Ch.row 22 0 0 [.slice (some ⟨bo, 0, some 0⟩) N (2 * N + 1)]) ∈ T)
    (hmP : (bp, Ch.row 53 0 0 [.func (.func 78) [].toArray [.pointer (some ⟨bm, 0, some 0⟩), .pointer (some ⟨bs, 0, some 0⟩), .pointer (some ⟨be, 0, some 0⟩), .pointer (some ⟨bp, 0, some 0⟩)].toArray]) ∈ T)
    (hy : ∀ o n' H', okO N o → acycB N o = true → hasH ((bo, .row 3 0 0 (ints o)) :: (bf, .row 4 0 0 [.bool false]) :: T) n' H' →
      FS C g ([] ++ [.slice (some ⟨bo, 0, some 0⟩) N (2 * N + 1)] ++ vb) H' (fun e H2 => e = .bool (!P o) ∧ ∃ n2, n' ≤ n2 ∧ hasH ((bo, .row 3 0 0 (ints o)) :: (bf, .row 4 0 0 [.bool (P o)]) :: T) n2 H2)) :
    ∀ (k : Nat) {a : Nat} {o : List Int} {n0 : Nat} {H : Heap} (hk : a + k = N) (hok : okO N o) (hH : hasH ((bo, .row 3 0 0 (ints o)) :: (bf, .row 4 0 0 [.bool false]) :: T) n0 H),
      FS C 78 [.int .i64 (a : Int), .pointer (some ⟨bm, 0, some 0⟩), .pointer (some ⟨bs, 0, some 0⟩), .pointer (some ⟨be, 0, some 0⟩), .pointer (some ⟨bp, 0, some 0⟩)] H
        (fun e H' => ∃ o' n', e = .bool (!anyS P N k (o.take a)) ∧ okO N o' ∧ o'.take a = o.take a ∧ n0 ≤ n' ∧ hasH ((bo, .row 3 0 0 (ints o')) :: (bf, .row 4 0 0 [.bool (anyS P N k (o.take a))]) :: T) n' H') := by
  have up : ∀ {p : Nat × Ch} {o : List Int} {f : Bool}, p ∈ T → p ∈ (bo, Ch.row 3 0 0 (ints o)) :: (bf, Ch.row 4 0 0 [.bool f]) :: T := fun h => List.mem_cons_of_mem _ (List.mem_cons_of_mem _ h)
  have hSl : ∀ {o : List Int} {f : Bool}, okO N o → Sl ((bo, Ch.row 3 0 0 (ints o)) :: (bf, Ch.row 4 0 0 [.bool f]) :: T) 1 (.slice (some ⟨bo, 0, some 0⟩) N (2 * N + 1)) (ints o) := fun {o f} h =>
    .row (lo := 0) (cs := ints o) (.head _) (.row _ _ _ _) (Nat.le_refl _) (by simp [h.1]) (by simp [List.take_of_length_le]) (by simp) (.inr ⟨N, rfl, Nat.le_refl _⟩)
  intro k
  induction k with
  | zero =>
    intro a o n0 H hk hok hH
    have haN : N = a := by omega
    subst haN
    have hol := hok.1
    have hto : o.take N = o := List.take_of_length_le (by omega)
    rw [hto]
    have mN := up (o := o) (f := false) hmN
    have mE := up (o := o) (f := false) hmE
    have mS := up (o := o) (f := false) hmS
    have hS := hSl (f := false) hok
    refine FS.intro (pf := pf78) rfl rfl rfl ?_
    repeat' (first | refine zP ?_ | refine zA ?_ | (refine zM ?_; intro _ _) | refine zX ?_ | (refine zC ?_; intro _ _ _ _) | (refine zS ?_; intro _ _) | refine zO ?_ | (apply Ws <;> intro hg))
    refine WC.loopX [(0, _), (1, _), (2, _), (3, _), (15, _)] (fun s : Nat => [(16, .int .i64 (s : Int))]) [] (fun s H' => H' = H ∧ s ≤ N ∧ ∀ y : Nat, y < s → posO o (y : Int) N < 0) (fun s => N - s) 0 (by repeat' (first | exact .nil | refine .cons rfl ?_)) rfl ⟨rfl, Nat.zero_le _, fun i h => absurd h (Nat.not_lt_zero _)⟩ ?_
    rintro x H1 ⟨rfl, hx, hno⟩
    dsimp only [List.cons_append, List.nil_append]
    repeat' (first | refine zP ?_ | refine zA ?_ | (refine zM ?_; intro _ _) | refine zX ?_ | (refine zC ?_; intro _ _ _ _) | (refine zS ?_; intro _ _) | (apply Ws <;> intro hg))
    refine WC.condP rfl (fun hlt => ?_) (fun hlt => ?_)
    · have hx' : x < N := by omega
      have hbd := pos_bd hok (x := (x : Int)) (by omega) (by omega)
      repeat' (first | refine zP ?_ | refine zA ?_ | (refine zM ?_; intro _ _) | refine zX ?_ | (refine zC ?_; intro _ _ _ _) | (refine zS ?_; intro _ _) | (apply Ws <;> intro hg))
      refine WC.loopX [(0, _), (1, _), (2, _), (3, _), (7, _), (15, _), (16, _)] (fun s : Nat => [(8, .int .i64 (s : Int)), (9, .int .i64 (posO o (x : Int) s))]) [] (fun s H' => H' = H1 ∧ s ≤ N) (fun s => N - s) 0 (by repeat' (first | exact .nil | refine .cons rfl ?_)) rfl ⟨rfl, Nat.zero_le _⟩ ?_
      rintro s H2 ⟨rfl, hs⟩
      have hb := hbd s
      dsimp only [List.cons_append, List.nil_append]
      repeat' (first | refine zP ?_ | refine zA ?_ | (refine zM ?_; intro _ _) | refine zX ?_ | (refine zC ?_; intro _ _ _ _) | (refine zS ?_; intro _ _) | (apply Ws <;> intro hg))
      refine WC.condP rfl (fun hlt2 => ?_) (fun hlt2 => ?_)
      · have hn : ¬ posO o (x : Int) s < 0 := by omega
        have e1 := pos_succ hn
        obtain ⟨p, hpp⟩ : ∃ p : Nat, posO o (x : Int) s = p := ⟨(posO o (x : Int) s).toNat, by omega⟩
        rw [hpp, Int.toNat_natCast] at e1
        by_cases hsN : N = s
        · have hcy := acyc_no (o := o) hx' (by rw [hsN]; exact hn)
          have : anyS P N 0 o = false := by unfold anyS; rw [hcy]; rfl
          rw [this]
          repeat' (first | refine zP ?_ | refine zA ?_ | (refine zM ?_; intro _ _) | refine zX ?_ | (refine zC ?_; intro _ _ _ _) | (refine zS ?_; intro _ _) | refine zO ?_ | (apply Ws <;> intro hg))
          exact Ends.ret1 rfl ⟨o, n0, rfl, hok, hto, Nat.le_refl _, hH⟩
        · rw [hpp] at hb ⊢
          have hpN : p < N := by omega
          repeat' (first | refine zP ?_ | refine zA ?_ | (refine zM ?_; intro _ _) | refine zX ?_ | (refine zC ?_; intro _ _ _ _) | (refine zS ?_; intro _ _) | refine zO ?_ | (apply Ws <;> intro hg))
          rw [← e1]
          rw [show (s : Int) + 1 = ((s + 1 : Nat) : Int) by omega]
          exact Ends.loop (s + 1) (by omega) (by repeat' (first | exact .nil | refine .cons rfl ?_)) rfl ⟨rfl, by omega⟩
      · have hneg : posO o (x : Int) s < 0 := by omega
        have hfin := pos_stay hneg (N - s)
        rw [show s + (N - s) = N by omega] at hfin
        repeat' (first | refine zP ?_ | refine zA ?_ | (refine zM ?_; intro _ _) | refine zX ?_ | (refine zC ?_; intro _ _ _ _) | (refine zS ?_; intro _ _) | (apply Ws <;> intro hg))
        refine Ends.loop (x + 1) (by omega) (by repeat' (first | exact .nil | refine .cons rfl ?_)) rfl ⟨rfl, hx', fun y hy => ?_⟩
        by_cases h : y = x
        · rw [h]; omega
        · exact hno y (by omega)
    have hxN : N = x := by omega
    subst hxN
    have hcy : acycB N o = true := acyc_iff.2 hno
    have hA : anyS P N 0 o = P o := by unfold anyS; rw [hcy]; rfl
    rw [hA]
    repeat' (first | refine zP ?_ | refine zA ?_ | (refine zM ?_; intro _ _) | refine zX ?_ | (refine zC ?_; intro _ _ _ _) | (refine zS ?_; intro _ _) | (apply Ws <;> intro hg))
    refine WR.callV (by first | exact gN | exact gS rfl) rfl rfl rfl (hy o n0 _ hok hcy hH) ?_
    rintro _ H2 ⟨rfl, n2, hn2, hH2⟩
    repeat' (first | refine zP ?_ | refine zA ?_ | (refine zM ?_; intro _ _) | refine zX ?_ | (refine zC ?_; intro _ _ _ _) | (refine zS ?_; intro _ _) | (apply Ws <;> intro hg))
    exact Ends.ret1 rfl ⟨o, n2, rfl, hok, hto, hn2, hH2⟩
  | succ k ih =>
    intro a o n0 H hk hok hH
    have hol := hok.1
    have haN : a < N := by omega
    have mN := up (o := o) (f := false) hmN
    refine FS.intro (pf := pf78) rfl rfl rfl ?_
    repeat' (first | refine zP ?_ | refine zA ?_ | (refine zM ?_; intro _ _) | refine zX ?_ | (refine zC ?_; intro _ _ _ _) | (refine zS ?_; intro _ _) | refine zO ?_ | (apply Ws <;> intro hg))
    obtain ⟨bg, hbg⟩ : ∃ bg, o.take a = bg := ⟨_, rfl⟩
    have hbl : bg.length = a := by rw [← hbg, List.length_take]; omega
    rw [hbg]
    clear mN
    refine WC.loopX [(0, _), (1, _), (2, _), (3, _), (4, _)] (fun s : QV => [(10, .int .i64 ((s.j : Int) - 1))]) []
      (fun s H' => s.j ≤ N + 1 ∧ okO N s.o ∧ s.o.take a = bg ∧ n0 ≤ s.n ∧ hasH ((bo, .row 3 0 0 (ints s.o)) :: (bf, .row 4 0 0 [.bool false]) :: T) s.n H' ∧ ∀ i : Nat, i < s.j → (decide ((i : Int) - 1 ≠ (bg.length : Int)) && anyS P N k (bg ++ [(i : Int) - 1])) = false) (fun s => N + 1 - s.j) ⟨0, o, n0⟩ (by repeat' (first | exact .nil | refine .cons rfl ?_)) rfl ⟨Nat.zero_le _, hok, hbg, Nat.le_refl _, hH, fun i h => absurd h (Nat.not_lt_zero _)⟩ ?_
    clear hH hbg hol hok
    rintro ⟨j, q, n1⟩ H1 ⟨hj, hok, hbg, hn1, hH1, hno⟩
    simp only at hj hok hbg hn1 hH1 hno
    have hol := hok.1
    have mN := up (o := q) (f := false) hmN
    have mS := up (o := q) (f := false) hmS
    have hS := hSl (f := false) hok
    dsimp only [List.cons_append, List.nil_append]
    repeat' (first | refine zP ?_ | refine zA ?_ | (refine zM ?_; intro _ _) | refine zX ?_ | (refine zC ?_; intro _ _ _ _) | (refine zS ?_; intro _ _) | (apply Ws <;> intro hg))
    refine WC.condP rfl (fun hlt => ?_) (fun hlt => ?_)
    · have hj' : j < N + 1 := by omega
      have hok2 := okO_set (x := (j : Int) - 1) hok haN (by omega) (by omega)
      have htk := take_set (o := q) (a := a) (x := (j : Int) - 1) (by omega)
      rw [hbg] at htk
      have htk0 : (q.set a ((j : Int) - 1)).take a = bg := by rw [List.take_set_of_le (Nat.le_refl _), hbg]
      have hstep : ∀ {b : Bool}, (decide ((j : Int) - 1 ≠ (bg.length : Int)) && anyS P N k (bg ++ [(j : Int) - 1])) = b → b = false → ∀ i : Nat, i < j + 1 → (decide ((i : Int) - 1 ≠ (bg.length : Int)) && anyS P N k (bg ++ [(i : Int) - 1])) = false := fun {b} h1 h2 i hi => by
        by_cases h : i = j
        · rw [h, h1, h2]
        · exact hno i (by omega)
      have mP2 := up (o := q.set a ((j : Int) - 1)) (f := false) hmP
      by_cases hja : (j : Int) - 1 = (a : Int)
      · have hb0 : (decide ((j : Int) - 1 ≠ (bg.length : Int)) && anyS P N k (bg ++ [(j : Int) - 1])) = false := by rw [hbl, decide_eq_false (not_not_intro hja)]; rfl
        repeat' (first | refine zP ?_ | refine zA ?_ | (refine zM ?_; intro _ _) | refine zX ?_ | (refine zC ?_; intro _ _ _ _) | (refine zS ?_; intro _ _) | refine zO ?_ | (apply Ws <;> intro hg))
        rename_i H2 hH2
        rw [show (j : Int) - 1 + 1 = ((j + 1 : Nat) : Int) - 1 by omega]
        exact Ends.loop ⟨j + 1, q.set a ((j : Int) - 1), n1⟩ (by simp only; omega) (by repeat' (first | exact .nil | refine .cons rfl ?_)) rfl ⟨by simp only; omega, hok2, htk0, hn1, hH2, hstep hb0 rfl⟩
      · have hb1 : (decide ((j : Int) - 1 ≠ (bg.length : Int)) && anyS P N k (bg ++ [(j : Int) - 1])) = anyS P N k (bg ++ [(j : Int) - 1]) := by rw [hbl, decide_eq_true hja]; rfl
        repeat' (first | refine zP ?_ | refine zA ?_ | (refine zM ?_; intro _ _) | refine zX ?_ | (refine zC ?_; intro _ _ _ _) | (refine zS ?_; intro _ _) | refine zO ?_ | (apply Ws <;> intro hg))
        rename_i H2 hH2
        have hih := ih (a := a + 1) (o := q.set a ((j : Int) - 1)) (n0 := n1) (H := H2) (by omega) hok2 hH2
        rw [htk] at hih
        rw [show (a : Int) + 1 = ((a + 1 : Nat) : Int) by omega]
        refine WR.callV (by first | exact gN | exact gS rfl) rfl rfl rfl hih ?_
        rintro _ H3 ⟨od, n3, rfl, hok3, htk3, hn3, hH3⟩
        have htk4 : od.take a = bg := by
          have h1 := congrArg (List.take a) htk3
          rw [List.take_take, Nat.min_eq_left (by omega), List.take_left' hbl] at h1
          exact h1
        cases hf : anyS P N k (bg ++ [(j : Int) - 1]) with
        | true =>
          have hA : anyS P N (k + 1) bg = true := by
            unfold anyS
            exact List.any_eq_true.2 ⟨j, List.mem_range.2 hj', by rw [hb1, hf]⟩
          rw [hf] at hH3
          rw [hA]
          repeat' (first | refine zP ?_ | refine zA ?_ | (refine zM ?_; intro _ _) | refine zX ?_ | (refine zC ?_; intro _ _ _ _) | (refine zS ?_; intro _ _) | refine zO ?_ | (apply Ws <;> intro hg))
          exact Ends.ret1 rfl ⟨od, n3, rfl, hok3, htk4, by omega, hH3⟩
        | false =>
          rw [hf] at hH3
          repeat' (first | refine zP ?_ | refine zA ?_ | (refine zM ?_; intro _ _) | refine zX ?_ | (refine zC ?_; intro _ _ _ _) | (refine zS ?_; intro _ _) | refine zO ?_ | (apply Ws <;> intro hg))
          rw [show (j : Int) - 1 + 1 = ((j + 1 : Nat) : Int) - 1 by omega]
          exact Ends.loop ⟨j + 1, od, n3⟩ (by simp only; omega) (by repeat' (first | exact .nil | refine .cons rfl ?_)) rfl ⟨by simp only; omega, hok3, htk4, by simp only; omega, hH3, hstep (hb1.trans hf) rfl⟩
    · have hjN : j = N + 1 := by omega
      have hA : anyS P N (k + 1) bg = false := by
        cases h : anyS P N (k + 1) bg with
        | false => rfl
        | true =>
          unfold anyS at h
          obtain ⟨i, hi, h2⟩ := List.any_eq_true.1 h
          rw [hno i (by rw [hjN]; exact List.mem_range.1 hi)] at h2
          cases h2
      rw [hA]
      repeat' (first | refine zP ?_ | refine zA ?_ | (refine zM ?_; intro _ _) | refine zX ?_ | (refine zC ?_; intro _ _ _ _) | (refine zS ?_; intro _ _) | (apply Ws <;> intro hg))
      exact Ends.ret1 rfl ⟨q, n1, rfl, hok, hbg, hn1, hH1⟩
/-- All origins are tried, until one is good. -/
theorem origins_fs {M : HL} {n0 : Nat} {H : Heap} (hN1 : 1 ≤ N) (hN : N ≤ 6) (hH : hasH ((bf, .row 4 0 0 [.bool false]) :: M) n0 H)
    (hy : ∀ b2 X o n' H', okO N o → acycB N o = true → (∀ p ∈ M, p ∈ X) → hasH ((b2, .row 3 0 0 (ints o)) :: (bf, .row 4 0 0 [.bool false]) :: X) n' H' →
      FS C g ([] ++ [.slice (some ⟨b2, 0, some 0⟩) N (2 * N + 1)] ++ vb) H' (fun e H2 => e = .bool (!P o) ∧ ∃ n2, n' ≤ n2 ∧ hasH ((b2, .row 3 0 0 (ints o)) :: (bf, .row 4 0 0 [.bool (P o)]) :: X) n2 H2)) :
    FS C 37 [.int .i64 (N : Int), .func (.func g) [].toArray vb.toArray] H (fun e H' => ∃ n', n0 ≤ n' ∧ hasH ((bf, .row 4 0 0 [.bool (anyS P N N [])]) :: M) n' H') := by
  refine FS.intro (pf := pf37) rfl rfl rfl ?_
  repeat' (first | refine zP ?_ | refine zA ?_ | (refine zM ?_; intro _ _) | refine zX ?_ | (refine zC ?_; intro _ _ _ _) | (refine zS ?_; intro _ _) | (apply Ws <;> intro hg))
  rename_i H0 hH0 H1 hH1
  refine WR.mkSL (by first | exact gN | exact gS rfl) rfl hH1 rfl rfl (by omega) rfl fun H2 hH2 => ?_
  have hrep : (List.replicate N [Value.int .i64 0]).flatten = ints (List.replicate N 0) := by simp [List.map_replicate]
  rw [hrep] at hH2
  repeat' (first | refine zP ?_ | refine zA ?_ | (refine zM ?_; intro _ _) | refine zX ?_ | (refine zC ?_; intro _ _ _ _) | (refine zS ?_; intro _ _) | (apply Ws <;> intro hg))
  trace_state
  rename_i H3 hH3 H4 hH4 H5 hH5 H6 hH6
  have hok0 : okO N (List.replicate N 0) := ⟨by simp, fun i hi => by rw [getD_eq (by simpa using hi), List.getElem_replicate]; omega⟩
  have hH7 := hH6.perm ((List.perm_middle (l₁ := [_, _])).trans (.cons _ (List.perm_middle (l₁ := [_, _, _, _]))))
  refine WR.callV (by first | exact gN | exact gS rfl) rfl rfl rfl (oput_fs (N := N) (bm := n0) (be := n0 + 1) (bo := n0 + 1 + 1) (bf := bf) (g := g) (vb := vb) (P := P) hN1 hN (by simp) (by simp) (by simp) (by simp) (fun o n' H' h1 h2 h3 => hy _ _ o n' H' h1 h2 (fun p hp => by simp [hp]) h3) N (a := 0) (o := List.replicate N 0) (by omega) hok0 hH7) ?_
  rintro _ H8 ⟨od, n8, rfl, hok8, htk8, hn8, hH8⟩
  rw [List.take_zero] at hH8
  repeat' (first | refine zP ?_ | refine zA ?_ | (refine zM ?_; intro _ _) | refine zX ?_ | (refine zC ?_; intro _ _ _ _) | (refine zS ?_; intro _ _) | (apply Ws <;> intro hg))
  exact Ends.end0 ⟨n8, by omega, hH8.tail.sub (.cons_cons _ (.cons _ (.cons _ (.cons _ (.cons _ (List.Sublist.refl _))))))⟩
end
end Go.Proofs.Ytblopbimchkneaa.Md

namespace Go.Proofs.Ytblopbimchkneaa.Md
open Go Go.Abs Go.Mth
set_option linter.unusedVariables false
set_option linter.unusedSimpArgs false
attribute [local irreducible] gOK WS WC WR WD Ends FS YS OpV seqK blockK loopK midK retK rdK asgK rangeEnd sat Cell
section
variable {M X : HL} {n0 n : Nat} {H : Heap} {v u : Value} {ns : List Nat} {N b2 bf bc bo : Nat} {o q : List Int}
theorem osl {f : Bool} (h : okO N o) : Sl ((b2, Ch.row 3 0 0 (ints o)) :: (bf, Ch.row 4 0 0 [.bool f]) :: X) 1 (.slice (some ⟨b2, 0, some 0⟩) N (2 * N + 1)) (ints o) :=
  .row (lo := 0) (cs := ints o) (.head _) (.row _ _ _ _) (Nat.le_refl _) (by simp [h.1]) (by simp [List.take_of_length_le]) (by simp) (.inr ⟨N, rfl, Nat.le_refl _⟩)
theorem once1_fs (hH : hasH ((b2, .row 3 0 0 (ints o)) :: (bf, .row 4 0 0 [.bool false]) :: X) n H) (hm : (bc, Ch.row 22 0 0 [v]) ∈ X) (hS : Sl X 1 v (nodes ns)) (hl : ns.length ≤ 8) (hb : ∀ x ∈ ns, x < 2 ^ 62) (hN : N ≤ 6) (hok : okO N o) (ha : acycB N o = true) :
    FS C 38 [.slice (some ⟨b2, 0, some 0⟩) N (2 * N + 1), .pointer (some ⟨bc, 0, some 0⟩), .pointer (some ⟨bf, 0, some 0⟩)] H
      (fun e H2 => e = .bool (!allB N o ns) ∧ ∃ n2, n ≤ n2 ∧ hasH ((b2, .row 3 0 0 (ints o)) :: (bf, .row 4 0 0 [.bool (allB N o ns)]) :: X) n2 H2) := by
  have hm1 : (bc, Ch.row 22 0 0 [v]) ∈ (b2, Ch.row 3 0 0 (ints o)) :: (bf, Ch.row 4 0 0 [.bool false]) :: X := .tail _ (.tail _ hm)
  have hS1 := (hS.cons (p := (bf, Ch.row 4 0 0 [.bool false]))).cons (p := (b2, Ch.row 3 0 0 (ints o)))
  refine FS.intro (pf := pf38) rfl rfl rfl ?_
  repeat' (first | refine zP ?_ | refine zA ?_ | (refine zM ?_; intro _ _) | refine zX ?_ | (refine zC ?_; intro _ _ _ _) | (refine zS ?_; intro _ _) | (apply Ws <;> intro hg))
  refine WR.call (by first | exact gN | exact gS rfl) rfl rfl (all_fs hH (osl hok) hS1 hl hok ha hN hb) ?_
  rintro _ H1 ⟨rfl, n1, hn1, hH1⟩
  refine WR.storeBox (w := .bool false) (by first | exact gN | exact gS rfl) hH1 rfl rfl rfl (.there .here) fun H2 hH2 => ?_
  have hm2 : (bf, Ch.row 4 0 0 [.bool (allB N o ns)]) ∈ (b2, Ch.row 3 0 0 (ints o)) :: (bf, Ch.row 4 0 0 [.bool (allB N o ns)]) :: X := .tail _ (.head _)
  repeat' (first | refine zP ?_ | refine zA ?_ | (refine zM ?_; intro _ _) | refine zX ?_ | (refine zC ?_; intro _ _ _ _) | (refine zS ?_; intro _ _) | (apply Ws <;> intro hg))
  exact Ends.ret1 rfl ⟨rfl, n1, hn1, hH2⟩
theorem once2_fs (hH : hasH ((b2, .row 3 0 0 (ints q)) :: (bf, .row 4 0 0 [.bool false]) :: X) n H) (hm : (bc, Ch.row 22 0 0 [v]) ∈ X) (hmo : (bo, Ch.row 22 0 0 [u]) ∈ X) (hS : Sl X 1 v (nodes ns)) (hU : Sl X 1 u (ints o)) (hol : o.length ≤ 6) (hl : ns.length ≤ 8) (hb : ∀ x ∈ ns, x < 2 ^ 62) (hN : N ≤ 6) (hok : okO N q) (ha : acycB N q = true) :
    FS C 42 [.slice (some ⟨b2, 0, some 0⟩) N (2 * N + 1), .pointer (some ⟨bo, 0, some 0⟩), .pointer (some ⟨bc, 0, some 0⟩), .pointer (some ⟨bf, 0, some 0⟩)] H
      (fun e H2 => e = .bool (!(decide (o = q) && allB N q ns)) ∧ ∃ n2, n ≤ n2 ∧ hasH ((b2, .row 3 0 0 (ints q)) :: (bf, .row 4 0 0 [.bool (decide (o = q) && allB N q ns)]) :: X) n2 H2) := by
  have up : ∀ {p : Nat × Ch}, p ∈ X → p ∈ (b2, Ch.row 3 0 0 (ints q)) :: (bf, Ch.row 4 0 0 [.bool false]) :: X := fun h => .tail _ (.tail _ h)
  have hm1 := up hm
  have hmo1 := up hmo
  have hS1 := (hS.cons (p := (bf, Ch.row 4 0 0 [.bool false]))).cons (p := (b2, Ch.row 3 0 0 (ints q)))
  have hU1 := (hU.cons (p := (bf, Ch.row 4 0 0 [.bool false]))).cons (p := (b2, Ch.row 3 0 0 (ints q)))
  refine FS.intro (pf := pf42) rfl rfl rfl ?_
  repeat' (first | refine zP ?_ | refine zA ?_ | (refine zM ?_; intro _ _) | refine zX ?_ | (refine zC ?_; intro _ _ _ _) | (refine zS ?_; intro _ _) | (apply Ws <;> intro hg))
  refine WR.call (by first | exact gN | exact gS rfl) rfl rfl (sameI_fs hH hU1 (osl hok) (by omega) (by have := hok.1; omega)) ?_
  rintro _ H1 ⟨rfl, rfl⟩
  by_cases he : o = q
  · rw [decide_eq_true he, Bool.true_and]
    repeat' (first | refine zP ?_ | refine zA ?_ | (refine zM ?_; intro _ _) | refine zX ?_ | (refine zC ?_; intro _ _ _ _) | (refine zS ?_; intro _ _) | (apply Ws <;> intro hg))
    refine WR.call (by first | exact gN | exact gS rfl) rfl rfl (all_fs hH (osl hok) hS1 hl hok ha hN hb) ?_
    rintro _ H1 ⟨rfl, n1, hn1, hH1⟩
    repeat' (first | refine zP ?_ | refine zA ?_ | (refine zM ?_; intro _ _) | refine zX ?_ | (refine zC ?_; intro _ _ _ _) | (refine zS ?_; intro _ _) | (apply Ws <;> intro hg))
    rename_i H2 hH2
    exact Ends.ret1 rfl ⟨rfl, n1, hn1, hH2⟩
  · rw [decide_eq_false he, Bool.false_and]
    repeat' (first | refine zP ?_ | refine zA ?_ | (refine zM ?_; intro _ _) | refine zX ?_ | (refine zC ?_; intro _ _ _ _) | (refine zS ?_; intro _ _) | (apply Ws <;> intro hg))
    rename_i H2 hH2
    exact Ends.ret1 rfl ⟨rfl, n, Nat.le_refl _, hH2⟩
end
end Go.Proofs.Ytblopbimchkneaa.Md

namespace Go.Proofs.Ytblopbimchkneaa.Md
open Go Go.Abs Go.Mth
set_option linter.unusedVariables false
set_option linter.unusedSimpArgs false
theorem FC.at {ns : List Nat} {N a b x z : Nat} (h : FC (clashB ns) N a b true) (hxz : x < z) (hz : z < N) (hc : clashB ns x z = true) (h1 : ∀ i j, i < x → i < j → j < N → clashB ns i j = false) (h2 : ∀ j, x < j → j < z → clashB ns x j = false) : a = x ∧ b = z := by
  have h' : FC (clashB ns) N x z true := .inl ⟨rfl, hxz, hz, hc, fun i j hij hj hb => by
    rcases hb with hb | ⟨rfl, hb⟩
    · exact h1 i j hb hij hj
    · exact h2 j hij hb⟩
  have := FC.unique h h'
  exact ⟨this.1, this.2.1⟩
attribute [local irreducible] gOK WS WC WR WD Ends FS YS OpV seqK blockK loopK midK retK rdK asgK rangeEnd sat Cell
section
variable {M : HL} {n0 : Nat} {H : Heap} {v : Value} {ns : List Nat}
set_option maxHeartbeats 8000000 in
theorem MouldOnce_fs (hH : hasH M n0 H) {a b c : Int} {hs : List Int} (ha : 0 ≤ a ∧ a ≤ 255) (hb : 0 ≤ b ∧ b ≤ 255) (hc : 0 ≤ c ∧ c ≤ 255) (hl : hs.length = 14) (hu : ∀ x ∈ hs, 0 ≤ x ∧ x ≤ 255) :
    FS C 6 [.agg (trayV a b c hs).toArray] H (fun e H' => e = .bool true) := by
  have hone := tray_one a b c hs
  refine FS.intro (pf := pf6) rfl rfl rfl ?_
  repeat' (first | refine zP ?_ | refine zA ?_ | (refine zM ?_; intro _ _) | refine zX ?_ | (refine zC ?_; intro _ _ _ _) | (refine zS ?_; intro _ _))
  rename_i H1 hH1
  refine WR.op (by first | exact gN | exact gS rfl) rfl (OpV.loadAll (k := 17) rfl hH1 (.head _) (.row _ _ _ _) (by simp [trayV, hl])) ?_
  refine WR.call (by first | exact gN | exact gS rfl) rfl rfl (made0_fs hH1.tail ha hb hc hl hu (most := 4) (many := 8) (by omega) (by omega)) ?_
  rintro _ H2 ⟨N, ns, v, Mx, n2, rfl, hN1, hN4, hl8, hnb, hO, hn2, hH2, hv0⟩
  clear hH1
  have hS := hO.sl M
  clear hO hone
  generalize Mx ++ M = T at hH2 hS
  have hN6 : N ≤ 6 := by omega
  have hb62 := lt_62 hN6 hnb
  have hE0 := casts_intro hN1 hN6 hl8 hnb
  have hI : ∀ {X : HL} {w : Value} {l : List Nat}, Sl X 1 w (nodes l) → Sl X 1 w (ints (IL l)) := fun h => by rw [← nodesI]; exact h
  obtain ⟨_, _, o0, _, _, _, _, ho0, _⟩ := (Origin_fs hH2 hS hl8 hN1 hN6 hnb).ex
  have honce := once hN1 hN6 hl8 hnb (o := o0) fun h => by rw [OrgR, if_pos h] at ho0; exact ho0
  have hv1 := hS.one_
  repeat' (first | refine zP ?_ | refine zA ?_ | (refine zM ?_; intro _ _) | refine zX ?_ | (refine zC ?_; intro _ _ _ _) | (refine zS ?_; intro _ _) | (apply Ws <;> intro hg))
  rename_i Ha hHa Hb hHb Hc hHc Hd hHd
  clear hHa hHb hHc hH2
  refine WR.call (by first | exact gN | exact gS rfl) rfl rfl (origins_fs (N := N) (bf := n2 + 1) (P := fun q => allB N q ns) (M := (n2, Ch.row 22 0 0 [v]) :: T) hN1 hN6 hHd (fun b2 X o n' H' h1 h2 h3 h4 => once1_fs h4 (h3 _ (.head _)) (hS.mono fun p hp => h3 _ (.tail _ hp)) hl8 hb62 hN6 h1 h2)) ?_
  rintro e3 H3 ⟨n3, hn3, hH3⟩
  rw [honce] at hH3
  clear hHd honce
  have hm4 : (n2, Ch.row 22 0 0 [v]) ∈ (n2 + 1, Ch.row 4 0 0 [.bool (honB N ns)]) :: (n2, Ch.row 22 0 0 [v]) :: T := .tail _ (.head _)
  have hm5 : (n2 + 1, Ch.row 4 0 0 [.bool (honB N ns)]) ∈ (n2 + 1, Ch.row 4 0 0 [.bool (honB N ns)]) :: (n2, Ch.row 22 0 0 [v]) :: T := .head _
  replace hS := (hS.cons (p := (n2, Ch.row 22 0 0 [v]))).cons (p := (n2 + 1, Ch.row 4 0 0 [.bool (honB N ns)]))
  generalize (n2 + 1, Ch.row 4 0 0 [.bool (honB N ns)]) :: (n2, Ch.row 22 0 0 [v]) :: T = U at hH3 hm4 hm5 hS
  repeat' (first | refine zP ?_ | refine zA ?_ | (refine zM ?_; intro _ _) | refine zX ?_ | (refine zC ?_; intro _ _ _ _) | (refine zS ?_; intro _ _) | (apply Ws <;> intro hg))
  refine WR.call (by first | exact gN | exact gS rfl) rfl rfl (Honest_fs hH3 (hI hS) (by simp; omega)) ?_
  rintro _ H6 ⟨rfl, n6, hn6, hH6⟩
  rw [if_pos hE0, hE0, cast_toNat, Int.toNat_natCast]
  clear hH3
  repeat' (first | refine zP ?_ | refine zA ?_ | (refine zM ?_; intro _ _) | refine zX ?_ | (refine zC ?_; intro _ _ _ _) | (refine zS ?_; intro _ _) | (apply Ws <;> intro hg))
  refine WR.call (by first | exact gN | exact gS rfl) rfl rfl (Origin_fs hH6 hS hl8 hN1 hN6 hnb) ?_
  rintro _ H7 ⟨o, u, M7, n7, rfl, ho, hO7, hn7, hH7⟩
  have hU := hO7.sl U
  replace hS := hS.mono (M' := M7 ++ U) fun p hp => List.mem_append_right _ hp
  replace hm4 := List.mem_append_right M7 hm4
  replace hm5 := List.mem_append_right M7 hm5
  have hu1 := hU.one_
  clear hH6 hO7
  generalize M7 ++ U = V at hH7 hm4 hm5 hS hU
  repeat' (first | refine zP ?_ | refine zA ?_ | (refine zM ?_; intro _ _) | refine zX ?_ | (refine zC ?_; intro _ _ _ _) | (refine zS ?_; intro _ _) | (apply Ws <;> intro hg))
  rename_i He hHe Hf hHf
  have hm8 : (n7, Ch.row 22 0 0 [u]) ∈ (n7, Ch.row 22 0 0 [u]) :: V := .head _
  replace hm4 := List.mem_cons_of_mem (n7, Ch.row 22 0 0 [u]) hm4
  replace hm5 := List.mem_cons_of_mem (n7, Ch.row 22 0 0 [u]) hm5
  replace hS := hS.cons (p := (n7, Ch.row 22 0 0 [u]))
  replace hU := hU.cons (p := (n7, Ch.row 22 0 0 [u]))
  clear hHe hH7
  generalize (n7, Ch.row 22 0 0 [u]) :: V = W at hHf hm4 hm5 hm8 hS hU
  repeat' (first | refine zP ?_ | refine zA ?_ | (refine zM ?_; intro _ _) | refine zX ?_ | (refine zC ?_; intro _ _ _ _) | (refine zS ?_; intro _ _) | (apply Ws <;> intro hg))
  refine WR.call (by first | exact gN | exact gS rfl) rfl rfl (Why_fs hHf (hI hS) (by simp; omega)) ?_
  rintro _ H9 ⟨⟨x, y, f, rfl, hw⟩, n9, hn9, hH9⟩
  clear hHf
  rw [WhyR, if_neg (not_not_intro hE0), cast_toNat, Int.toNat_natCast] at hw
  obtain ⟨x, y, is, hFC, rfl, rfl, rfl⟩ := hw
  have his := hFC.hon
  repeat' (first | refine zP ?_ | refine zA ?_ | (refine zM ?_; intro _ _) | refine zX ?_ | (refine zC ?_; intro _ _ _ _) | (refine zS ?_; intro _ _) | (apply Ws <;> intro hg))
  refine WC.regionD ?_
  repeat' (first | refine WD.guardF rfl rfl (stands_nil _ _) ?_ | refine WD.guardU rfl rfl (stands_nil _ _) ?_ | refine zD ?_ | (refine zE ?_; intro _ _ _ _))
  refine WD.op (by first | exact gN | exact gS rfl) rfl (OpV.neB (nq4 _ _) rfl rfl) rfl (stands_nil _ _) ?_
  rw [bne_self_eq_false]
  repeat' (first | refine WD.guardF rfl rfl (stands_nil _ _) ?_ | refine WD.guardU rfl rfl (stands_nil _ _) ?_ | refine zD ?_ | (refine zE ?_; intro _ _ _ _))
  refine WD.call (by first | exact gN | exact gS rfl) rfl rfl (lhonest_fs hH9 hS (by omega) hb62 (by omega)) ?_
  rintro _ H10 ⟨rfl, n10, hn10, hH10⟩
  refine ⟨stands_cons (.inl rfl) (stands_cons (.inr (holds_at (hH10.read hm5 (.row _ _ _ _) (Nat.le_refl _) rfl) (by simp [same1, same0]))) (stands_cons (.inl rfl) stands_nil')), ?_⟩
  clear hH9
  refine WD.op (by first | exact gN | exact gS rfl) rfl (OpV.neB (nq4 _ _) rfl rfl) rfl (stands_nil _ _) ?_
  rw [bne_self_eq_false]
  repeat' (first | refine WD.guardF rfl rfl (stands_nil _ _) ?_ | refine WD.guardU rfl rfl (stands_nil _ _) ?_ | refine zD ?_ | (refine zE ?_; intro _ _ _ _))
  refine WD.nil ?_
  cases hh : honB N ns with
  | false =>
    rw [hh] at hm5 his
    replace his : is = true := his
    subst his
    rw [OrgR, if_neg (by rw [hh]; decide)] at ho
    subst ho
    have hFC2 := hFC
    rcases hFC2 with ⟨_, hxy, hyN, hcl, _⟩ | ⟨h, _⟩
    · rw [if_neg (show ¬ (false = true) by decide), if_pos rfl]
      repeat' (first | refine zP ?_ | refine zA ?_ | (refine zM ?_; intro _ _) | refine zX ?_ | (refine zC ?_; intro _ _ _ _) | (refine zS ?_; intro _ _) | refine zO ?_ | (apply Ws <;> intro hg))
      refine WR.call (by first | exact gN | exact gS rfl) rfl rfl (lclash_fs hH10 hS (by omega) hb62 (a := x) (b := y) (by omega) (by omega)) ?_
      rintro _ H11 ⟨rfl, n11, hn11, hH11⟩
      rw [hcl]
      clear hH10
      repeat' (first | refine zP ?_ | refine zA ?_ | (refine zM ?_; intro _ _) | refine zX ?_ | (refine zC ?_; intro _ _ _ _) | (refine zS ?_; intro _ _) | refine zO ?_ | (apply Ws <;> intro hg))
      refine WC.loopX [(3, _), (4, _), (10, _), (11, _), (91, _)] (fun s : Nat × Nat => [(92, .int .i64 (s.1 : Int))]) [] (fun s H' => s.1 ≤ N ∧ hasH W s.2 H' ∧ ∀ p r, p < s.1 → p < r → r < N → clashB ns p r = false) (fun s => N - s.1) (0, n11) (by repeat' (first | exact .nil | refine .cons rfl ?_)) rfl
        ⟨Nat.zero_le _, hH11, fun p r h => absurd h (Nat.not_lt_zero _)⟩ ?_
      clear hH11
      rintro ⟨i, n12⟩ H12 ⟨hi, hH12, hno⟩
      simp only at hi hH12 hno
      dsimp only [List.cons_append, List.nil_append]
      repeat' (first | refine zP ?_ | refine zA ?_ | (refine zM ?_; intro _ _) | refine zX ?_ | (refine zC ?_; intro _ _ _ _) | (refine zS ?_; intro _ _) | (apply Ws <;> intro hg))
      refine WC.condP rfl (fun hlt => ?_) (fun hlt => ?_)
      · have hi' : i < N := by omega
        repeat' (first | refine zP ?_ | refine zA ?_ | (refine zM ?_; intro _ _) | refine zX ?_ | (refine zC ?_; intro _ _ _ _) | (refine zS ?_; intro _ _) | (apply Ws <;> intro hg))
        rw [show (i : Int) + 1 = ((i + 1 : Nat) : Int) by omega]
        refine WC.loopX [(3, _), (4, _), (10, _), (11, _), (13, _), (91, _), (92, _)] (fun s : Nat × Nat => [(14, .int .i64 (s.1 : Int))]) [] (fun s H' => s.1 ≤ N ∧ i < s.1 ∧ hasH W s.2 H' ∧ ∀ r, i < r → r < s.1 → clashB ns i r = false) (fun s => N - s.1) (i + 1, n12) (by repeat' (first | exact .nil | refine .cons rfl ?_)) rfl
          ⟨hi', Nat.lt_succ_self _, hH12, fun r h h' => by omega⟩ ?_
        clear hH12
        rintro ⟨z, n13⟩ H13 ⟨hz, hiz, hH13, hno2⟩
        simp only at hz hiz hH13 hno2
        dsimp only [List.cons_append, List.nil_append]
        repeat' (first | refine zP ?_ | refine zA ?_ | (refine zM ?_; intro _ _) | refine zX ?_ | (refine zC ?_; intro _ _ _ _) | (refine zS ?_; intro _ _) | (apply Ws <;> intro hg))
        refine WC.condP rfl (fun hlt2 => ?_) (fun hlt2 => ?_)
        · have hz' : z < N := by omega
          repeat' (first | refine zP ?_ | refine zA ?_ | (refine zM ?_; intro _ _) | refine zX ?_ | (refine zC ?_; intro _ _ _ _) | (refine zS ?_; intro _ _) | (apply Ws <;> intro hg))
          refine WR.call (by first | exact gN | exact gS rfl) rfl rfl (lclash_fs hH13 hS (by omega) hb62 (a := i) (b := z) (by omega) (by omega)) ?_
          rintro _ H14 ⟨rfl, n14, hn14, hH14⟩
          cases hc2 : clashB ns i z with
          | true =>
            obtain ⟨e1, e2⟩ := FC.at hFC hiz hz' hc2 hno hno2
            rw [e1, e2]
            repeat' (first | refine zP ?_ | refine zA ?_ | (refine zM ?_; intro _ _) | refine zX ?_ | (refine zC ?_; intro _ _ _ _) | (refine zS ?_; intro _ _) | refine zO ?_ | (apply Ws <;> intro hg))
            refine WR.call (by first | exact gN | exact gS rfl) rfl rfl (FS.works (C := C) (R := fun v H' => v = .bool true) rfl) ?_
            rintro _ _ rfl
            repeat' (first | refine zP ?_ | refine zA ?_ | (refine zM ?_; intro _ _) | refine zX ?_ | (refine zC ?_; intro _ _ _ _) | (refine zS ?_; intro _ _) | (apply Ws <;> intro hg))
            exact Ends.ret1 rfl rfl
          | false =>
            repeat' (first | refine zP ?_ | refine zA ?_ | (refine zM ?_; intro _ _) | refine zX ?_ | (refine zC ?_; intro _ _ _ _) | (refine zS ?_; intro _ _) | (apply Ws <;> intro hg))
            rw [show (z : Int) + 1 = ((z + 1 : Nat) : Int) by omega]
            refine Ends.loop (z + 1, n14) (by simp only; omega) (by repeat' (first | exact .nil | refine .cons rfl ?_)) rfl ⟨hz', by simp only; omega, hH14, fun r h1 h2 => ?_⟩
            replace h2 : r < z + 1 := h2
            by_cases h : r = z
            · rw [h]; exact hc2
            · exact hno2 r h1 (by omega)
        · have hzN : z = N := by omega
          repeat' (first | refine zP ?_ | refine zA ?_ | (refine zM ?_; intro _ _) | refine zX ?_ | (refine zC ?_; intro _ _ _ _) | (refine zS ?_; intro _ _) | (apply Ws <;> intro hg))
          refine Ends.loop (i + 1, n13) (by simp only; omega) (by repeat' (first | exact .nil | refine .cons rfl ?_)) rfl ⟨hi', hH13, fun p r h1 h2 h3 => ?_⟩
          replace h1 : p < i + 1 := h1
          by_cases h : p = i
          · rw [h]; exact hno2 r (by omega) (by omega)
          · exact hno p r (by omega) h2 h3
      · have hiN : i = N := by omega
        rw [hno x y (by omega) hxy hyN] at hcl
        cases hcl
    · cases h
  | true =>
    rw [hh] at hm5 his
    replace his : is = false := his
    subst his
    rw [OrgR, if_pos hh] at ho
    have hol := ho.1
    have hown := own_found hN1 hN6 hl8 hnb hh ho
    rw [if_pos rfl, if_neg (show ¬ (false = true) by decide)]
    repeat' (first | refine zP ?_ | refine zA ?_ | (refine zM ?_; intro _ _) | refine zX ?_ | (refine zC ?_; intro _ _ _ _) | (refine zS ?_; intro _ _) | refine zO ?_ | (apply Ws <;> intro hg))
    rename_i Hg hHg Hh hHh
    clear hHg hH10
    refine WR.call (by first | exact gN | exact gS rfl) rfl rfl (origins_fs (N := N) (bf := n10) (P := fun q => decide (o = q) && allB N q ns) (M := W) hN1 hN6 hHh (fun b2 X q n' H' h1 h2 h3 h4 => once2_fs h4 (h3 _ hm4) (h3 _ hm8) (hS.mono h3) (hU.mono h3) (by omega) hl8 hb62 hN6 h1 h2)) ?_
    rintro e3 H12 ⟨n12, hn12, hH12⟩
    rw [hown] at hH12
    have hm15 : (n10, Ch.row 4 0 0 [.bool true]) ∈ (n10, Ch.row 4 0 0 [.bool true]) :: W := .head _
    repeat' (first | refine zP ?_ | refine zA ?_ | (refine zM ?_; intro _ _) | refine zX ?_ | (refine zC ?_; intro _ _ _ _) | (refine zS ?_; intro _ _) | refine zO ?_ | (apply Ws <;> intro hg))
    refine WR.call (by first | exact gN | exact gS rfl) rfl rfl (FS.works (C := C) (R := fun v H' => v = .bool true) rfl) ?_
    rintro _ _ rfl
    repeat' (first | refine zP ?_ | refine zA ?_ | (refine zM ?_; intro _ _) | refine zX ?_ | (refine zC ?_; intro _ _ _ _) | (refine zS ?_; intro _ _) | (apply Ws <;> intro hg))
    exact Ends.ret1 rfl rfl
end
end Go.Proofs.Ytblopbimchkneaa.Md
