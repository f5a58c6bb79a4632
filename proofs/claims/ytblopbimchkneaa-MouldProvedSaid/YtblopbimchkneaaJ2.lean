/- Texts of the law, joined. -/
import Derived.Test.YtblopbimchkneaaJ1
import Derived.Test.YtblopbimchkneaaSymK
import Derived.Test.YtblopbimchkneaaSymR
namespace Go.Proofs.Ytblopbimchkneaa.Md
open Go Go.Abs Go.Mth
set_option linter.unusedVariables false
set_option linter.unusedSimpArgs false
theorem u8k : C.c.P.underlying 5 = some (.int .u8) := by kernel_rfl
theorem i64k : C.c.P.underlying 3 = some (.int .i64) := by kernel_rfl
abbrev bytesV (hs : List Int) : List Value := hs.map (Value.int .u8)
theorem bytes_one (hs : List Int) : (bytesV hs).all one = true := by simp [bytesV, List.all_map]; exact fun x _ => rfl
theorem bytes_get {hs : List Int} {k : Nat} (h : k < hs.length) : (bytesV hs)[k]? = some (.int .u8 (hs.getD k 0)) := by
  rw [List.getElem?_map, List.getElem?_eq_getElem h, getD_eq h]; rfl
/-- A tray's cells: three bytes, then eight, then six. -/
def trayV (a b c : Int) (hs : List Int) : List Value := .int .u8 a :: .int .u8 b :: .int .u8 c :: bytesV hs
theorem tray_one (a b c : Int) (hs : List Int) : (trayV a b c hs).all one = true := by
  have := bytes_one hs
  simp only [trayV, List.all_cons, this, Bool.and_true]; rfl
theorem tray_get {a b c : Int} {hs : List Int} {k : Nat} (h : k < hs.length) : (trayV a b c hs)[k + 3]? = some (.int .u8 (hs.getD k 0)) := by
  simp only [trayV, List.getElem?_cons_succ]; exact bytes_get h
structure NV where
  k : Nat
  v : Value
  l : List Nat
  Mx : HL
  n : Nat
theorem pow_le_62 {N : Nat} (h : N ≤ 61) : 2 ^ N < 2 ^ 62 := Nat.pow_lt_pow_right (by omega) (by omega)
theorem pow_lt_63 {N : Nat} (h : N ≤ 61) : 2 ^ N < 2 ^ 63 := Nat.pow_lt_pow_right (by omega) (by omega)
attribute [local irreducible] gOK WS WC WR WD Ends FS YS OpV seqK blockK loopK midK retK rdK asgK rangeEnd sat Cell

section
variable {M : HL} {n0 : Nat} {H : Heap}
set_option maxHeartbeats 4000000 in
theorem made_fs (hH : hasH M n0 H) {a b c : Int} {hs : List Int} (ha : 0 ≤ a ∧ a ≤ 255) (hb : 0 ≤ b ∧ b ≤ 255) (hc : 0 ≤ c ∧ c ≤ 255) (hl : hs.length = 14) (hu : ∀ x ∈ hs, 0 ≤ x ∧ x ≤ 255) {most many : Nat} (hmo : 1 ≤ most ∧ most ≤ 6) (hma : many ≤ 8) :
    FS C 36 [.agg (trayV a b c hs).toArray, .int .i64 (most : Int), .int .i64 (many : Int)] H (fun e H' => ∃ (N : Nat) (ns : List Nat) (v : Value) (Mx : HL) (n' : Nat), e = .tuple #[.int .i64 (N : Int), v] ∧ 1 ≤ N ∧ N ≤ most ∧ ns.length ≤ many ∧ (∀ x ∈ ns, x < 2 ^ N) ∧ Own 3 1 v (nodes ns) Mx ∧ n0 ≤ n' ∧ hasH (Mx ++ M) n' H') := by
  have hone := tray_one a b c hs
  refine FS.intro (pf := pf36) rfl rfl rfl ?_
  repeat' (first | refine zP ?_ | refine zA ?_ | (refine zM ?_; intro _ _) | refine zX ?_ | (refine zC ?_; intro _ _ _ _) | (refine zS ?_; intro _ _))
  rename_i H1 hH1
  refine WR.op (by first | exact gN | exact gS rfl) rfl (OpV.conv u8k i64k rfl (c := a) (IntWalk.i64_in _ (by omega))) ?_
  obtain ⟨an, rfl⟩ : ∃ an : Nat, a = an := ⟨a.toNat, by omega⟩
  obtain ⟨bn, rfl⟩ : ∃ bn : Nat, b = bn := ⟨b.toNat, by omega⟩
  obtain ⟨cn, rfl⟩ : ∃ cn : Nat, c = cn := ⟨c.toNat, by omega⟩
  have hmod := Nat.mod_lt an (show 0 < most by omega)
  have hmodb := Nat.mod_lt bn (show 0 < many + 1 by omega)
  repeat' (first | refine zP ?_ | refine zA ?_ | (refine zM ?_; intro _ _) | refine zX ?_ | (refine zC ?_; intro _ _ _ _) | (refine zS ?_; intro _ _) | (apply Ws <;> intro hg))
  rw [show (an : Int) % (most : Int) = ((an % most : Nat) : Int) by simp]
  obtain ⟨r, hr⟩ : ∃ r, an % most = r := ⟨_, rfl⟩
  rw [hr] at hmod ⊢
  repeat' (first | refine zP ?_ | refine zA ?_ | (refine zM ?_; intro _ _) | refine zX ?_ | (refine zC ?_; intro _ _ _ _) | (refine zS ?_; intro _ _) | (apply Ws <;> intro hg))
  rw [show (1 : Int) + (r : Int) = ((1 + r : Nat) : Int) by omega]
  obtain ⟨N, hN⟩ : ∃ N, 1 + r = N := ⟨_, rfl⟩
  have hN6 : 1 ≤ N ∧ N ≤ most := by omega
  rw [hN]
  clear hN hr hmod
  repeat' (first | refine zP ?_ | refine zA ?_ | (refine zM ?_; intro _ _) | refine zX ?_ | (refine zC ?_; intro _ _ _ _) | (refine zS ?_; intro _ _) | (apply Ws <;> intro hg))
  refine WC.loopX [(1, _), (2, _), (3, _), (8, _), (23, _)] (fun s : NV => [(9, s.v), (24, .int .i64 (s.k : Int))]) []
    (fun s H' => s.k ≤ N ∧ n0 + 1 ≤ s.n ∧ s.l.length = s.k ∧ (∀ i, i < s.k → s.l.getD i 0 < 2 ^ (i + 1)) ∧ ((s.k = 0 ∧ s.v = .slice none 0 0 ∧ s.Mx = []) ∨ OwnR 3 1 s.v (nodes s.l) s.Mx) ∧ hasH ((n0, .row 44 0 0 (trayV an bn cn hs)) :: (s.Mx ++ M)) s.n H') (fun s => N - s.k) ⟨0, .slice none 0 0, [], [], n0 + 1⟩ (by repeat' (first | exact .nil | refine .cons rfl ?_)) rfl
    ⟨Nat.zero_le _, Nat.le_refl _, rfl, fun i h => absurd h (Nat.not_lt_zero _), .inl ⟨rfl, rfl, rfl⟩, hH1⟩ ?_
  clear hH1
  rintro ⟨k, v, ps, Mx, n1⟩ H2 ⟨hk, hn1, hpl, hpb, hO, hH2⟩
  simp only at hk hn1 hpl hpb hO hH2
  have hOwn : Own 3 1 v (nodes ps) Mx := by
    rcases hO with ⟨h1, rfl, rfl⟩ | h
    · rw [List.length_eq_zero_iff.1 (hpl.trans h1)]; exact .nil
    · exact h.own
  dsimp only [List.cons_append, List.nil_append]
  repeat' (first | refine zP ?_ | refine zA ?_ | (refine zM ?_; intro _ _) | refine zX ?_ | (refine zC ?_; intro _ _ _ _) | (refine zS ?_; intro _ _) | (apply Ws <;> intro hg))
  refine WC.condP rfl (fun hlt => ?_) (fun hlt => ?_)
  · have hk' : k < N := by omega
    have hkl : 8 + k < hs.length := by omega
    have hx0 := hu _ (getD_mem (a := 0) hkl)
    obtain ⟨x, hx⟩ : ∃ x : Nat, hs.getD (8 + k) 0 = x := ⟨(hs.getD (8 + k) 0).toNat, by omega⟩
    repeat' (first | refine zP ?_ | refine zA ?_ | (refine zM ?_; intro _ _) | refine zX ?_ | (refine zC ?_; intro _ _ _ _) | (refine zS ?_; intro _ _) | (apply Ws <;> intro hg))
    refine WR.op (by first | exact gN | exact gS rfl) rfl (OpV.load1 (v := .int .u8 (hs.getD (8 + k) 0)) rfl hH2 (.head _) (.row _ _ _ _) (Nat.zero_le _) (by rw [show 11 + k - 0 = 8 + k + 3 by omega]; exact tray_get hkl)) ?_
    rw [hx]
    refine WR.op (by first | exact gN | exact gS rfl) rfl (OpV.conv u8k i64k rfl (c := (x : Int)) (IntWalk.i64_in _ (by omega))) ?_
    repeat' (first | refine zP ?_ | refine zA ?_ | (refine zM ?_; intro _ _) | refine zX ?_ | (refine zC ?_; intro _ _ _ _) | (refine zS ?_; intro _ _) | (apply Ws <;> intro hg))
    rw [show (x : Int) % ((k : Int) + 1) = ((x % (k + 1) : Nat) : Int) by simp]
    have hp := Nat.mod_lt x (show 0 < k + 1 by omega)
    obtain ⟨p, hpp⟩ : ∃ p, x % (k + 1) = p := ⟨_, rfl⟩
    rw [hpp] at hp ⊢
    repeat' (first | refine zP ?_ | refine zA ?_ | (refine zM ?_; intro _ _) | refine zX ?_ | (refine zC ?_; intro _ _ _ _) | (refine zS ?_; intro _ _) | (apply Ws <;> intro hg))
    refine WR.op (by first | exact gN | exact gS rfl) rfl (OpV.shl1 rfl rfl (by show k ≤ 64; omega) (pow_lt_63 (by omega))) ?_
    repeat' (first | refine zP ?_ | refine zA ?_ | (refine zM ?_; intro _ _) | refine zX ?_ | (refine zC ?_; intro _ _ _ _) | (refine zS ?_; intro _ _) | (apply Ws <;> intro hg))
    refine WC.joinX [(1, _), (2, _), (3, _), (8, _), (9, _), (10, _), (23, _), (24, _)] (by repeat' (first | exact .nil | refine .cons rfl ?_)) (fun w : Nat => [(12, .int .i64 (w : Int))]) (fun w H' => H' = H2 ∧ w < 2 ^ (k + 1)) ?_ ?_
    · refine WC.condP rfl (fun h2 => ?_) (fun h2 => ?_)
      · have hSp : Sl ((n0, .row 44 0 0 (trayV an bn cn hs)) :: (Mx ++ M)) 1 v (nodes ps) := (hOwn.sl M).cons
        have hpb' := hpb p (by omega)
        have hle : ps.getD p 0 < 2 ^ (k + 1) := Nat.lt_of_lt_of_le hpb' (Nat.pow_le_pow_right (by omega) (by omega))
        have h63 := pow_lt_63 (N := k + 1) (by omega)
        repeat' (first | refine zP ?_ | refine zA ?_ | (refine zM ?_; intro _ _) | refine zX ?_ | (refine zC ?_; intro _ _ _ _) | (refine zS ?_; intro _ _) | (apply Ws <;> intro hg))
        refine WR.op (by first | exact gN | exact gS rfl) rfl (OpV.orN rfl rfl (by show 2 ^ k < 2 ^ 63; exact pow_lt_63 (by omega)) (by show ps.getD p 0 < 2 ^ 63; omega)) ?_
        repeat' (first | refine zP ?_ | refine zA ?_ | (refine zM ?_; intro _ _) | refine zX ?_ | (refine zC ?_; intro _ _ _ _) | (refine zS ?_; intro _ _) | (apply Ws <;> intro hg))
        exact Ends.midX (2 ^ k ||| ps.getD p 0) (by repeat' (first | exact .nil | refine .cons rfl ?_)) ⟨rfl, Nat.or_lt_two_pow (Nat.pow_lt_pow_right (by omega) (by omega)) hle⟩
      · repeat' (first | refine zP ?_ | refine zA ?_ | (refine zM ?_; intro _ _) | refine zX ?_ | (refine zC ?_; intro _ _ _ _) | (refine zS ?_; intro _ _) | (apply Ws <;> intro hg))
        exact Ends.midX (2 ^ k) (by repeat' (first | exact .nil | refine .cons rfl ?_)) ⟨rfl, Nat.pow_lt_pow_right (by omega) (by omega)⟩
    rintro w H3 ⟨rfl, hw⟩
    dsimp only [List.cons_append, List.nil_append]
    repeat' (first | refine zP ?_ | refine zA ?_ | (refine zM ?_; intro _ _) | refine zX ?_ | (refine zC ?_; intro _ _ _ _) | (refine zS ?_; intro _ _) | (apply Ws <;> intro hg))
    refine WR.append1RF [(n0, .row 44 0 0 (trayV an bn cn hs))] Mx M rfl rfl rfl rfl hOwn hH2 (new := [.int .i64 (w : Int)]) (by rfl) rfl rfl (Nat.le_refl _) (by omega) (by simp; omega) fun v3 M3 n3 H6 hO3 hH6 hn3 => ?_
    repeat' (first | refine zP ?_ | refine zA ?_ | (refine zM ?_; intro _ _) | refine zX ?_ | (refine zC ?_; intro _ _ _ _) | (refine zS ?_; intro _ _) | (apply Ws <;> intro hg))
    refine Ends.loop ⟨k + 1, v3, ps ++ [w], M3, n3⟩ (by show N - (k + 1) < N - k; omega) (by repeat' (first | exact .nil | refine .cons rfl ?_)) rfl ⟨hk', by simp only; omega, by simp [hpl], fun i hi => ?_, .inr ?_, hH6⟩
    · replace hi : i < k + 1 := hi
      simp only
      rcases Nat.lt_or_ge i k with h3 | h3
      · rw [getD_app_l (by omega)]; exact hpb i h3
      · have : i = ps.length := by omega
        subst this
        rw [getD_snoc, hpl]; exact hw
    · simp only
      simpa [nodes] using hO3
  have hkN : N = k := by omega
  subst hkN
  clear hOwn hlt hk
  rcases hO with ⟨h1, _⟩ | hO
  · omega
  have hPl : ∀ i, i < N → ps.getD i 0 < 2 ^ N := fun i hi => Nat.lt_of_lt_of_le (hpb i hi) (Nat.pow_le_pow_right (by omega) (by omega))
  clear hpb
  cases hO with
  | mk hlp =>
  rename_i pb pu po plen
  have hplen : N = plen := by simp [nodes] at hlp; omega
  subst hplen
  simp only [List.cons_append, List.nil_append] at hH2
  have hmP : (pb, Ch.row 3 pu po (nodes ps)) ∈ (pb, Ch.row 3 pu po (nodes ps)) :: M := .head _
  have hbackP : ∀ {M' : HL} {n' : Nat} {H' : Heap}, hasH (M' ++ (pb, Ch.row 3 pu po (nodes ps)) :: M) n' H' → hasH (M' ++ M) n' H' := fun h => h.sub (List.Sublist.append_left (List.sublist_cons_self _ _) _)
  generalize (pb, Ch.row 3 pu po (nodes ps)) :: M = T at hH2 hmP hbackP
  repeat' (first | refine zP ?_ | refine zA ?_ | (refine zM ?_; intro _ _) | refine zX ?_ | (refine zC ?_; intro _ _ _ _) | (refine zS ?_; intro _ _) | (apply Ws <;> intro hg))
  refine WR.op (by first | exact gN | exact gS rfl) rfl (OpV.conv u8k i64k rfl (c := (bn : Int)) (IntWalk.i64_in _ (by omega))) ?_
  repeat' (first | refine zP ?_ | refine zA ?_ | (refine zM ?_; intro _ _) | refine zX ?_ | (refine zC ?_; intro _ _ _ _) | (refine zS ?_; intro _ _) | (apply Ws <;> intro hg))
  rw [show (bn : Int) % ((many : Int) + 1) = ((bn % (many + 1) : Nat) : Int) by simp]
  obtain ⟨m, hm⟩ : ∃ m, bn % (many + 1) = m := ⟨_, rfl⟩
  rw [hm] at hmodb ⊢
  refine WR.op (by first | exact gN | exact gS rfl) rfl (OpV.slAh rfl rfl (by omega) (by decide)) ?_
  repeat' (first | refine zP ?_ | refine zA ?_ | (refine zM ?_; intro _ _) | refine zX ?_ | (refine zC ?_; intro _ _ _ _) | (refine zS ?_; intro _ _) | (apply Ws <;> intro hg))
  refine WC.loopX [(1, _), (2, _), (3, _), (8, _), (9, _), (58, _), (59, _)] (fun s : NV => [(13, s.v), (60, .int .i64 (s.k : Int))]) []
    (fun s H' => s.k ≤ m ∧ n0 + 1 ≤ s.n ∧ s.l.length = s.k ∧ (∀ x ∈ s.l, x < 2 ^ N) ∧ Own 3 1 s.v (nodes s.l) s.Mx ∧ hasH ((n0, .row 44 0 0 (trayV an bn cn hs)) :: (s.Mx ++ T)) s.n H') (fun s => m - s.k) ⟨0, .slice none 0 0, [], [], n1⟩ (by repeat' (first | exact .nil | refine .cons rfl ?_)) rfl
    ⟨Nat.zero_le _, hn1, rfl, fun x h => (by cases h), .nil, hH2⟩ ?_
  clear hH2 hn1
  rintro ⟨k, v, ns, Mx, n2⟩ H3 ⟨hk, hn2, hnl, hnb, hO, hH3⟩
  simp only at hk hn2 hnl hnb hO hH3
  have hmP3 := List.mem_cons_of_mem (n0, Ch.row 44 0 0 (trayV an bn cn hs)) (List.mem_append_right Mx hmP)
  dsimp only [List.cons_append, List.nil_append]
  repeat' (first | refine zP ?_ | refine zA ?_ | (refine zM ?_; intro _ _) | refine zX ?_ | (refine zC ?_; intro _ _ _ _) | (refine zS ?_; intro _ _) | (apply Ws <;> intro hg))
  refine WC.condP rfl (fun hlt => ?_) (fun hlt => ?_)
  · have hk' : k < m := by omega
    have hkl : k < hs.length := by omega
    have hx0 := hu _ (getD_mem (a := 0) hkl)
    obtain ⟨x, hx⟩ : ∃ x : Nat, hs.getD k 0 = x := ⟨(hs.getD k 0).toNat, by omega⟩
    repeat' (first | refine zP ?_ | refine zA ?_ | (refine zM ?_; intro _ _) | refine zX ?_ | (refine zC ?_; intro _ _ _ _) | (refine zS ?_; intro _ _) | (apply Ws <;> intro hg))
    refine WR.op (by first | exact gN | exact gS rfl) rfl (OpV.load1 (v := .int .u8 (hs.getD k 0)) rfl hH3 (.head _) (.row _ _ _ _) (Nat.zero_le _) (by rw [show 3 + k - 0 = k + 3 by omega]; exact tray_get hkl)) ?_
    rw [hx]
    repeat' (first | refine zP ?_ | refine zA ?_ | (refine zM ?_; intro _ _) | refine zX ?_ | (refine zC ?_; intro _ _ _ _) | (refine zS ?_; intro _ _) | (apply Ws <;> intro hg))
    refine WR.op (by first | exact gN | exact gS rfl) rfl (OpV.conv u8k i64k rfl (c := (x : Int)) (IntWalk.i64_in _ (by omega))) ?_
    repeat' (first | refine zP ?_ | refine zA ?_ | (refine zM ?_; intro _ _) | refine zX ?_ | (refine zC ?_; intro _ _ _ _) | (refine zS ?_; intro _ _) | (apply Ws <;> intro hg))
    refine WR.op (by first | exact gN | exact gS rfl) rfl (OpV.shl1 rfl rfl (by show N ≤ 64; omega) (pow_lt_63 (by omega))) ?_
    have hNp : 0 < 2 ^ N := Nat.two_pow_pos N
    have h62 := pow_le_62 (N := N) (by omega)
    have hxm := Nat.mod_lt x hNp
    repeat' (first | refine zP ?_ | refine zA ?_ | (refine zM ?_; intro _ _) | refine zX ?_ | (refine zC ?_; intro _ _ _ _) | (refine zS ?_; intro _ _) | (apply Ws <;> intro hg))
    rw [show (x : Int) % ((2 ^ N : Nat) : Int) = ((x % 2 ^ N : Nat) : Int) by simp]
    obtain ⟨y, hy⟩ : ∃ y, x % 2 ^ N = y := ⟨_, rfl⟩
    rw [hy] at hxm ⊢
    repeat' (first | refine zP ?_ | refine zA ?_ | (refine zM ?_; intro _ _) | refine zX ?_ | (refine zC ?_; intro _ _ _ _) | (refine zS ?_; intro _ _) | (apply Ws <;> intro hg))
    have hstep : ∀ {w : Nat}, w < 2 ^ N → w < 2 ^ 62 := fun h => by omega
    refine WC.joinX [(1, _), (2, _), (3, _), (8, _), (9, _), (13, _), (14, _), (15, _), (58, _), (59, _), (60, _)] (by repeat' (first | exact .nil | refine .cons rfl ?_)) (fun s : Nat × Nat => [(16, .int .i64 (s.1 : Int))]) (fun s H' => s.1 < 2 ^ N ∧ n0 + 1 ≤ s.2 ∧ hasH ((n0, .row 44 0 0 (trayV an bn cn hs)) :: (Mx ++ T)) s.2 H') ?_ ?_
    · refine WC.condP rfl (fun h2 => ?_) (fun h2 => ?_)
      · refine WC.regionD ?_
        repeat' (first | refine zD ?_ | (refine zE ?_; intro _ _ _ _))
        refine WD.op (by first | exact gN | exact gS rfl) rfl (OpV.conv u8k i64k rfl (c := (x : Int)) (IntWalk.i64_in _ (by omega))) rfl (stands_nil _ _) ?_
        repeat' (first | refine zD ?_ | (refine zE ?_; intro _ _ _ _))
        rw [show (x : Int) % ((N : Int) + 1) = ((x % (N + 1) : Nat) : Int) by simp]
        have hq := Nat.mod_lt x (show 0 < N + 1 by omega)
        obtain ⟨q, hqq⟩ : ∃ q, x % (N + 1) = q := ⟨_, rfl⟩
        rw [hqq] at hq ⊢
        refine WD.bldS (by first | exact gN | exact gS rfl) rfl hH3 (vs := [(0, .int .i64 0)]) rfl (cs := [.int .i64 0]) (by rfl) rfl (fun H8 hH8 => zSt) fun H8 hH8 => ?_
        refine WD.appendKeep (y := .int .i64 0) (by first | exact gN | exact gS rfl) rfl rfl rfl hH8 (List.mem_cons_of_mem _ hmP3) (by simpa [nodes] using hpl) rfl (by
          have := hH8.readN (b := n2) (u := 0) (lo := 0) (o := 0) (k := 1) (.head _) (.row _ _ _ _) (Nat.le_refl _) (by simp)
          simpa [srcCells] using this) rfl (by omega) fun tp H9 hH9 hrd => ⟨zSt, ?_⟩
        refine WD.op (by first | exact gN | exact gS rfl) rfl (OpV.idxS rfl rfl rfl (m := q) (by omega) rfl) rfl (stands_nil _ _) ?_
        obtain ⟨w, hw, hwq⟩ : ∃ w : Nat, w < 2 ^ N ∧ (nodes ps ++ [Value.int .i64 0])[q]? = some (.int .i64 (w : Int)) := by
          by_cases h : q < N
          · exact ⟨ps.getD q 0, hPl q h, by rw [List.getElem?_append_left (by simp; omega), List.getElem?_map, List.getElem?_eq_getElem (by omega), getD_eq (by omega)]; rfl⟩
          · have : q = (nodes ps).length := by simp; omega
            exact ⟨0, hNp, by rw [this, List.getElem?_append_right (Nat.le_refl _)]; simp⟩
        refine WD.load1 (v := .int .i64 (w : Int)) (by first | exact gN | exact gS rfl) rfl rfl (hrd (q * 1) _ (by rw [Nat.mul_one]; exact hwq)) ?_
        repeat' (first | refine zD ?_ | (refine zE ?_; intro _ _ _ _))
        refine WD.nil ?_
        repeat' (first | refine zP ?_ | refine zA ?_ | (refine zM ?_; intro _ _) | refine zX ?_ | (refine zC ?_; intro _ _ _ _) | (refine zS ?_; intro _ _) | (apply Ws <;> intro hg))
        exact Ends.midX (w, n2 + 1) (by repeat' (first | exact .nil | refine .cons rfl ?_)) ⟨hw, by simp only; omega, hH9.tail⟩
      · repeat' (first | refine zP ?_ | refine zA ?_ | (refine zM ?_; intro _ _) | refine zX ?_ | (refine zC ?_; intro _ _ _ _) | (refine zS ?_; intro _ _) | (apply Ws <;> intro hg))
        exact Ends.midX (y, n2) (by repeat' (first | exact .nil | refine .cons rfl ?_)) ⟨hxm, hn2, hH3⟩
    clear hH3 hn2
    rintro ⟨w, n3⟩ H4 ⟨hw, hn3, hH4⟩
    simp only at hw hn3 hH4
    have hmP4 := hmP3
    dsimp only [List.cons_append, List.nil_append]
    have happ : ∀ {z : Nat}, z < 2 ^ N → ∀ x ∈ ns ++ [z], x < 2 ^ N := fun hz x hx => by
      rcases List.mem_append.1 hx with h | h
      · exact hnb x h
      · obtain rfl := List.mem_singleton.1 h
        exact hz
    by_cases h4 : (cn : Int) % 4 = 3
    · by_cases hk0 : (k : Int) = 0
      · repeat' (first | refine zP ?_ | refine zA ?_ | (refine zM ?_; intro _ _) | refine zX ?_ | (refine zC ?_; intro _ _ _ _) | (refine zS ?_; intro _ _) | refine zO ?_ | (apply Ws <;> intro hg))
        refine WR.op (by first | exact gN | exact gS rfl) rfl (OpV.conv u8k i64k rfl (c := (x : Int)) (IntWalk.i64_in _ (by omega))) ?_
        repeat' (first | refine zP ?_ | refine zA ?_ | (refine zM ?_; intro _ _) | refine zX ?_ | (refine zC ?_; intro _ _ _ _) | (refine zS ?_; intro _ _) | refine zO ?_ | (apply Ws <;> intro hg))
        rw [show (x : Int) % (N : Int) = ((x % N : Nat) : Int) by simp]
        have hq := Nat.mod_lt x (show 0 < N by omega)
        obtain ⟨q, hqq⟩ : ∃ q, x % N = q := ⟨_, rfl⟩
        rw [hqq] at hq ⊢
        refine WR.op (by first | exact gN | exact gS rfl) rfl (OpV.shl1 rfl rfl (by show q ≤ 64; omega) (pow_lt_63 (by omega))) ?_
        refine WR.op (by first | exact gN | exact gS rfl) rfl (OpV.xorN rfl rfl (by show w < 2 ^ 63; omega) (by show 2 ^ q < 2 ^ 63; exact pow_lt_63 (by omega))) ?_
        have hw2 : w ^^^ 2 ^ q < 2 ^ N := Nat.xor_lt_two_pow hw (Nat.pow_lt_pow_right (by omega) hq)
        obtain ⟨w2, hww⟩ : ∃ w2, w ^^^ 2 ^ q = w2 := ⟨_, rfl⟩
        rw [hww] at hw2 ⊢
        repeat' (first | refine zP ?_ | refine zA ?_ | (refine zM ?_; intro _ _) | refine zX ?_ | (refine zC ?_; intro _ _ _ _) | (refine zS ?_; intro _ _) | (apply Ws <;> intro hg))
        refine WR.append1F [(n0, .row 44 0 0 (trayV an bn cn hs))] Mx T rfl rfl rfl rfl hO hH4 (new := [.int .i64 (w2 : Nat)]) (by rfl) rfl rfl (Nat.le_refl _) (by omega) (by simp; omega) fun v5 M5 n5 H5 hO5 hH5 hn5 => ?_
        repeat' (first | refine zP ?_ | refine zA ?_ | (refine zM ?_; intro _ _) | refine zX ?_ | (refine zC ?_; intro _ _ _ _) | (refine zS ?_; intro _ _) | (apply Ws <;> intro hg))
        exact Ends.loop ⟨k + 1, v5, ns ++ [w2], M5, n5⟩ (by show m - (k + 1) < m - k; omega) (by repeat' (first | exact .nil | refine .cons rfl ?_)) rfl ⟨hk', by simp only; omega, by simp [hnl], happ (by first | exact hw | exact hw2), by simpa [nodes] using hO5, hH5⟩
      · repeat' (first | refine zP ?_ | refine zA ?_ | (refine zM ?_; intro _ _) | refine zX ?_ | (refine zC ?_; intro _ _ _ _) | (refine zS ?_; intro _ _) | refine zO ?_ | (apply Ws <;> intro hg))
        refine WR.append1F [(n0, .row 44 0 0 (trayV an bn cn hs))] Mx T rfl rfl rfl rfl hO hH4 (new := [.int .i64 (w : Nat)]) (by rfl) rfl rfl (Nat.le_refl _) (by omega) (by simp; omega) fun v5 M5 n5 H5 hO5 hH5 hn5 => ?_
        repeat' (first | refine zP ?_ | refine zA ?_ | (refine zM ?_; intro _ _) | refine zX ?_ | (refine zC ?_; intro _ _ _ _) | (refine zS ?_; intro _ _) | (apply Ws <;> intro hg))
        exact Ends.loop ⟨k + 1, v5, ns ++ [w], M5, n5⟩ (by show m - (k + 1) < m - k; omega) (by repeat' (first | exact .nil | refine .cons rfl ?_)) rfl ⟨hk', by simp only; omega, by simp [hnl], happ (by first | exact hw | exact hw2), by simpa [nodes] using hO5, hH5⟩
    · repeat' (first | refine zP ?_ | refine zA ?_ | (refine zM ?_; intro _ _) | refine zX ?_ | (refine zC ?_; intro _ _ _ _) | (refine zS ?_; intro _ _) | refine zO ?_ | (apply Ws <;> intro hg))
      refine WR.append1F [(n0, .row 44 0 0 (trayV an bn cn hs))] Mx T rfl rfl rfl rfl hO hH4 (new := [.int .i64 (w : Nat)]) (by rfl) rfl rfl (Nat.le_refl _) (by omega) (by simp; omega) fun v5 M5 n5 H5 hO5 hH5 hn5 => ?_
      repeat' (first | refine zP ?_ | refine zA ?_ | (refine zM ?_; intro _ _) | refine zX ?_ | (refine zC ?_; intro _ _ _ _) | (refine zS ?_; intro _ _) | (apply Ws <;> intro hg))
      exact Ends.loop ⟨k + 1, v5, ns ++ [w], M5, n5⟩ (by show m - (k + 1) < m - k; omega) (by repeat' (first | exact .nil | refine .cons rfl ?_)) rfl ⟨hk', by simp only; omega, by simp [hnl], happ (by first | exact hw | exact hw2), by simpa [nodes] using hO5, hH5⟩
  · have hkm : m = k := by omega
    subst hkm
    repeat' (first | refine zP ?_ | refine zA ?_ | (refine zM ?_; intro _ _) | refine zX ?_ | (refine zC ?_; intro _ _ _ _) | (refine zS ?_; intro _ _) | (apply Ws <;> intro hg))
    exact Ends.ret2 rfl rfl ⟨N, ns, v, Mx, n2, rfl, by omega, by omega, by omega, hnb, hO, by omega, hbackP hH3.tail⟩
end
end Go.Proofs.Ytblopbimchkneaa.Md

namespace Go.Proofs.Ytblopbimchkneaa.Md
open Go Go.Abs Go.Mth
set_option linter.unusedVariables false
set_option linter.unusedSimpArgs false
def bitN (c a : Nat) : Nat := if c.testBit a = true then 1 else 0
theorem shr_one (c a : Nat) : (c >>> a) &&& 1 = bitN c a := by
  have h1 : (c >>> a) &&& 1 < 2 := by rw [Nat.and_one_is_mod]; exact Nat.mod_lt _ (by omega)
  have h2 := shr_and_one (a := c) (m := a)
  unfold bitN
  split
  · rename_i h; have := h2.2 h; omega
  · rename_i h
    have : ¬ (((c >>> a) &&& 1 : Nat) : Int) = 1 := fun e => h (h2.1 e)
    omega
def kd (c a b : Nat) : Nat := bitN c a + 2 * bitN c b
theorem bitN_lt (c a : Nat) : bitN c a < 2 := by unfold bitN; split <;> omega
theorem kd_lt (c a b : Nat) : kd c a b < 4 := by have := bitN_lt c a; have := bitN_lt c b; unfold kd; omega
/-- Which kinds of casts have been met. -/
def metB (ns : List Nat) (a b k i : Nat) : Bool := (ns.take k).any fun c => kd c a b == i
theorem metB_succ {ns : List Nat} {a b k i : Nat} (h : k < ns.length) : metB ns a b (k + 1) i = (metB ns a b k i || (kd (ns.getD k 0) a b == i)) := by
  unfold metB
  rw [List.take_succ_eq_append_getElem h, List.any_append, getD_eq h]; simp
theorem met_clash (ns : List Nat) (a b : Nat) : clashB ns a b = (metB ns a b ns.length 1 && metB ns a b ns.length 2 && metB ns a b ns.length 3) := by
  have e : ∀ i, metB ns a b ns.length i = ns.any fun c => kd c a b == i := fun i => by rw [metB, List.take_length]
  rw [e, e, e, clashB]
  have e1 : (fun c => kd c a b == 1) = fun c => c.testBit a && !c.testBit b := by
    funext c; unfold kd bitN; cases c.testBit a <;> cases c.testBit b <;> rfl
  have e2 : (fun c => kd c a b == 2) = fun c => !c.testBit a && c.testBit b := by
    funext c; unfold kd bitN; cases c.testBit a <;> cases c.testBit b <;> rfl
  have e3 : (fun c => kd c a b == 3) = fun c => c.testBit a && c.testBit b := by
    funext c; unfold kd bitN; cases c.testBit a <;> cases c.testBit b <;> rfl
  rw [e1, e2, e3]
  cases ns.any (fun c => c.testBit a && c.testBit b) <;> cases ns.any (fun c => c.testBit a && !c.testBit b) <;> cases ns.any (fun c => !c.testBit a && c.testBit b) <;> rfl
structure BL where
  k : Nat
  l : List Bool
attribute [local irreducible] gOK WS WC WR WD Ends FS YS OpV seqK blockK loopK midK retK rdK asgK rangeEnd sat Cell
section
variable {M : HL} {n0 : Nat} {H : Heap} {v : Value} {ns : List Nat}
set_option maxHeartbeats 1000000 in
theorem lclash_fs (hH : hasH M n0 H) (hS : Sl M 1 v (nodes ns)) (hl : ns.length ≤ 1000) (hb : ∀ x ∈ ns, x < 2 ^ 62) {a b : Nat} (ha : a ≤ 61) (hbb : b ≤ 61) :
    FS C 41 [v, .int .i64 (a : Int), .int .i64 (b : Int)] H (fun e H' => e = .bool (clashB ns a b) ∧ ∃ n', n0 ≤ n' ∧ hasH M n' H') := by
  refine FS.intro (pf := pf41) rfl rfl rfl ?_
  repeat' (first | refine zP ?_ | refine zA ?_ | (refine zM ?_; intro _ _) | refine zX ?_ | (refine zC ?_; intro _ _ _ _) | (refine zS ?_; intro _ _) | (apply Ws <;> intro hg))
  rename_i H1 hH1
  have hSc : ∀ {ch : Ch}, Sl ((n0, ch) :: M) 1 v (nodes ns) := hS.cons
  have hS1 := hSc (ch := .row 56 0 0 (bools [false, false, false, false]))
  replace hH1 : hasH ((n0, .row 56 0 0 (bools [false, false, false, false])) :: M) (n0 + 1) H1 := hH1
  repeat' (first | refine zP ?_ | refine zA ?_ | (refine zM ?_; intro _ _) | refine zX ?_ | (refine zC ?_; intro _ _ _ _) | (refine zS ?_; intro _ _) | (apply Ws <;> intro hg))
  refine WC.loopX [(0, _), (1, _), (2, _), (7, _), (10, _), (11, _)] (fun s : BL => [(12, .int .i64 (s.k : Int))]) []
    (fun s H' => s.k ≤ ns.length ∧ s.l.length = 4 ∧ (∀ i, i < 4 → s.l.getD i false = metB ns a b s.k i) ∧ hasH ((n0, .row 56 0 0 (bools s.l)) :: M) (n0 + 1) H') (fun s => ns.length - s.k) ⟨0, [false, false, false, false]⟩ (by repeat' (first | exact .nil | refine .cons rfl ?_)) rfl
    ⟨Nat.zero_le _, rfl, fun i hi => by match i, hi with | 0, _ | 1, _ | 2, _ | 3, _ => rfl, hH1⟩ ?_
  rintro ⟨k, l⟩ H2 ⟨hk, hll, hm, hH2⟩
  simp only at hk hll hm hH2
  have hS2 := hSc (ch := .row 56 0 0 (bools l))
  clear hH1 hS1
  dsimp only [List.cons_append, List.nil_append]
  repeat' (first | refine zP ?_ | refine zA ?_ | (refine zM ?_; intro _ _) | refine zX ?_ | (refine zC ?_; intro _ _ _ _) | (refine zS ?_; intro _ _) | (apply Ws <;> intro hg))
  refine WC.condP rfl (fun hlt => ?_) (fun hlt => ?_)
  · have hk' : k < ns.length := by omega
    have hx := hb _ (getD_mem (a := 0) hk')
    repeat' (first | refine zP ?_ | refine zA ?_ | (refine zM ?_; intro _ _) | refine zX ?_ | (refine zC ?_; intro _ _ _ _) | (refine zS ?_; intro _ _) | (apply Ws <;> intro hg))
    obtain ⟨c, hc⟩ : ∃ c, ns.getD k 0 = c := ⟨_, rfl⟩
    rw [hc] at hx ⊢
    have hsh : ∀ m, c >>> m < 2 ^ 63 := fun m => Nat.lt_of_le_of_lt (Nat.shiftRight_le c m) (by omega)
    refine WR.op (by first | exact gN | exact gS rfl) rfl (OpV.shrN rfl rfl (by show a ≤ 64; omega)) ?_
    refine WR.op (by first | exact gN | exact gS rfl) rfl (OpV.andN (b := 1) rfl rfl (hsh a) (by decide)) ?_
    repeat' (first | refine zP ?_ | refine zA ?_ | (refine zM ?_; intro _ _) | refine zX ?_ | (refine zC ?_; intro _ _ _ _) | (refine zS ?_; intro _ _) | (apply Ws <;> intro hg))
    refine WR.op (by first | exact gN | exact gS rfl) rfl (OpV.shrN rfl rfl (by show b ≤ 64; omega)) ?_
    refine WR.op (by first | exact gN | exact gS rfl) rfl (OpV.andN (b := 1) rfl rfl (hsh b) (by decide)) ?_
    rw [shr_one, shr_one]
    have h1 := bitN_lt c a
    have h2 := bitN_lt c b
    have h4 := kd_lt c a b
    have hkd : kd c a b = bitN c a + 2 * bitN c b := rfl
    obtain ⟨x, hx1⟩ : ∃ x, bitN c a = x := ⟨_, rfl⟩
    obtain ⟨y, hy1⟩ : ∃ y, bitN c b = y := ⟨_, rfl⟩
    obtain ⟨z, hz1⟩ : ∃ z, kd c a b = z := ⟨_, rfl⟩
    rw [hz1] at h4 hkd
    rw [hx1, hy1] at hkd
    rw [hx1] at h1 ⊢
    rw [hy1] at h2 ⊢
    repeat' (first | refine zP ?_ | refine zA ?_ | (refine zM ?_; intro _ _) | refine zX ?_ | (refine zC ?_; intro _ _ _ _) | (refine zS ?_; intro _ _) | (apply Ws <;> intro hg))
    rw [show (x : Int) + 2 * (y : Int) = ((z : Nat) : Int) by omega]
    repeat' (first | refine zP ?_ | refine zA ?_ | (refine zM ?_; intro _ _) | refine zX ?_ | (refine zC ?_; intro _ _ _ _) | (refine zS ?_; intro _ _) | (apply Ws <;> intro hg))
    rename_i H3 hH3
    refine Ends.loop ⟨k + 1, l.set z true⟩ (by show ns.length - (k + 1) < ns.length - k; omega) (by repeat' (first | exact .nil | refine .cons rfl ?_)) rfl ⟨hk', by simpa using hll, fun i hi => ?_, hH3⟩
    simp only
    rw [getD_set' (by omega), metB_succ hk', hc, hz1, ← hm i hi]
    by_cases h : i = z
    · rw [if_pos h, h]; simp
    · rw [if_neg h]; simp [show ¬ z = i from fun e => h e.symm]
  · have hkl : k = ns.length := by omega
    subst hkl
    rw [met_clash, ← hm 1 (by omega), ← hm 2 (by omega), ← hm 3 (by omega)]
    obtain ⟨b0, b1, b2, b3, rfl⟩ : ∃ b0 b1 b2 b3, l = [b0, b1, b2, b3] := by
      match l, hll with
      | [b0, b1, b2, b3], _ => exact ⟨b0, b1, b2, b3, rfl⟩
    have hback := hH2.tail
    cases b1 with
    | false =>
      repeat' (first | refine zP ?_ | refine zA ?_ | (refine zM ?_; intro _ _) | refine zX ?_ | (refine zC ?_; intro _ _ _ _) | (refine zS ?_; intro _ _) | (apply Ws <;> intro hg))
      exact Ends.ret1 rfl ⟨rfl, n0 + 1, by omega, hback⟩
    | true =>
      cases b2 with
      | false =>
        repeat' (first | refine zP ?_ | refine zA ?_ | (refine zM ?_; intro _ _) | refine zX ?_ | (refine zC ?_; intro _ _ _ _) | (refine zS ?_; intro _ _) | (apply Ws <;> intro hg))
        exact Ends.ret1 rfl ⟨rfl, n0 + 1, by omega, hback⟩
      | true =>
        repeat' (first | refine zP ?_ | refine zA ?_ | (refine zM ?_; intro _ _) | refine zX ?_ | (refine zC ?_; intro _ _ _ _) | (refine zS ?_; intro _ _) | (apply Ws <;> intro hg))
        exact Ends.ret1 rfl ⟨by cases b3 <;> rfl, n0 + 1, by omega, hback⟩
end
end Go.Proofs.Ytblopbimchkneaa.Md

namespace Go.Proofs.Ytblopbimchkneaa.Md
open Go Go.Abs Go.Mth
set_option linter.unusedVariables false
set_option linter.unusedSimpArgs false
theorem bit_eq1 (c a : Nat) : decide (((bitN c a : Nat) : Int) = 1) = c.testBit a := by unfold bitN; cases c.testBit a <;> rfl
theorem bit_eq0 (c a : Nat) : decide (((bitN c a : Nat) : Int) = 0) = !c.testBit a := by unfold bitN; cases c.testBit a <;> rfl
theorem nq4 : ∀ a b : Bool, pureRun C.c.P (binOp .neq 4 (.bool a) (.bool b)) = some (.bool (a != b)) := by
  intro a b
  cases a <;> cases b <;> kernel_rfl
/-- Whether three casts have been found, of those before. -/
def prov3 (ns : List Nat) (a b i j k : Nat) : Prop := provB ns a b i j k = true
theorem prov_any {ns : List Nat} {a b : Nat} : clashB ns a b = true ↔ ∃ i j k, i < ns.length ∧ j < ns.length ∧ k < ns.length ∧ provB ns a b i j k = true := by
  rw [clash_iff]
  simp only [provB, Bool.and_eq_true, Bool.not_eq_true']
  constructor
  · rintro ⟨⟨x, hx, h1, h2⟩, ⟨y, hy, h3, h4⟩, ⟨z, hz, h5, h6⟩⟩
    obtain ⟨i, hi, rfl⟩ := List.mem_iff_getElem.1 hx
    obtain ⟨j, hj, rfl⟩ := List.mem_iff_getElem.1 hy
    obtain ⟨k, hk, rfl⟩ := List.mem_iff_getElem.1 hz
    exact ⟨i, j, k, hi, hj, hk, by rw [getD_eq hi, getD_eq hj, getD_eq hk]; exact ⟨⟨⟨⟨⟨h1, h2⟩, h3⟩, h4⟩, h6⟩, h5⟩⟩
  · rintro ⟨i, j, k, hi, hj, hk, ⟨⟨⟨⟨⟨h1, h2⟩, h3⟩, h4⟩, h5⟩, h6⟩⟩
    exact ⟨⟨_, getD_mem hi, h1, h2⟩, ⟨_, getD_mem hj, h3, h4⟩, ⟨_, getD_mem hk, h6, h5⟩⟩
theorem prov_val {N : Nat} {ns : List Nat} (h0 : castsE (N : Int) (ns.map fun (x : Nat) => (x : Int)) = 0) {x y i j k : Nat} (hx : x < N) (hy : y < N) (hi : i < ns.length) (hj : j < ns.length) (hk : k < ns.length) :
    provE (N : Int) (ns.map fun (x : Nat) => (x : Int)) (x : Int) (y : Int) (i : Int) (j : Int) (k : Int) = if provB ns x y i j k = true then 0 else 14 := by
  rw [provE, if_neg (by omega), if_neg (by rw [List.length_map]; omega), cast_toNat]
  simp only [Int.toNat_natCast]
attribute [local irreducible] gOK WS WC WR WD Ends FS YS OpV seqK blockK loopK midK retK rdK asgK rangeEnd sat Cell
section
variable {M : HL} {n0 : Nat} {H : Heap}
set_option maxHeartbeats 4000000 in
theorem MouldProved_fs (hH : hasH M n0 H) {a b c : Int} {hs : List Int} (ha : 0 ≤ a ∧ a ≤ 255) (hb : 0 ≤ b ∧ b ≤ 255) (hc : 0 ≤ c ∧ c ≤ 255) (hl : hs.length = 14) (hu : ∀ x ∈ hs, 0 ≤ x ∧ x ≤ 255) {one two : Int} (h1 : 0 ≤ one ∧ one ≤ 255) (h2 : 0 ≤ two ∧ two ≤ 255) :
    FS C 7 [.agg (trayV a b c hs).toArray, .int .u8 one, .int .u8 two] H (fun e H' => e = .bool true) := by
  have hone := tray_one a b c hs
  refine FS.intro (pf := pf7) rfl rfl rfl ?_
  repeat' (first | refine zP ?_ | refine zA ?_ | (refine zM ?_; intro _ _) | refine zX ?_ | (refine zC ?_; intro _ _ _ _) | (refine zS ?_; intro _ _))
  rename_i H1 hH1
  refine WR.op (by first | exact gN | exact gS rfl) rfl (OpV.loadAll (k := 17) rfl hH1 (.head _) (.row _ _ _ _) (by simp [trayV, hl])) ?_
  refine WR.call (by first | exact gN | exact gS rfl) rfl rfl (made_fs hH1.tail ha hb hc hl hu (most := 6) (many := 6) (by omega) (by omega)) ?_
  rintro _ H2 ⟨N, ns, v, Mx, n2, rfl, hN1, hN6, hnl, hnb, hO, hn2, hH2⟩
  clear hH1
  have hS := hO.sl M
  clear hO hone
  generalize Mx ++ M = T at hH2 hS
  have hb62 := lt_62 hN6 hnb
  have hSI : Unit → Sl T 1 v (ints (ns.map fun (x : Nat) => (x : Int))) := fun _ => by rw [← nodesI]; exact hS
  have hE0 := casts_intro hN1 hN6 (by omega) hnb
  repeat' (first | refine zP ?_ | refine zA ?_ | (refine zM ?_; intro _ _) | refine zX ?_ | (refine zC ?_; intro _ _ _ _) | (refine zS ?_; intro _ _) | (apply Ws <;> intro hg))
  obtain ⟨an, rfl⟩ : ∃ an : Nat, one = an := ⟨one.toNat, by omega⟩
  obtain ⟨bn, rfl⟩ : ∃ bn : Nat, two = bn := ⟨two.toNat, by omega⟩
  refine WR.op (by first | exact gN | exact gS rfl) rfl (OpV.conv u8k i64k rfl (c := (an : Int)) (IntWalk.i64_in _ (by omega))) ?_
  repeat' (first | refine zP ?_ | refine zA ?_ | (refine zM ?_; intro _ _) | refine zX ?_ | (refine zC ?_; intro _ _ _ _) | (refine zS ?_; intro _ _) | (apply Ws <;> intro hg))
  refine WR.op (by first | exact gN | exact gS rfl) rfl (OpV.conv u8k i64k rfl (c := (bn : Int)) (IntWalk.i64_in _ (by omega))) ?_
  repeat' (first | refine zP ?_ | refine zA ?_ | (refine zM ?_; intro _ _) | refine zX ?_ | (refine zC ?_; intro _ _ _ _) | (refine zS ?_; intro _ _) | (apply Ws <;> intro hg))
  rw [show (an : Int) % (N : Int) = ((an % N : Nat) : Int) by simp, show (bn : Int) % (N : Int) = ((bn % N : Nat) : Int) by simp]
  have ham := Nat.mod_lt an (show 0 < N by omega)
  have hbm := Nat.mod_lt bn (show 0 < N by omega)
  obtain ⟨x, hx⟩ : ∃ x, an % N = x := ⟨_, rfl⟩
  obtain ⟨y, hy⟩ : ∃ y, bn % N = y := ⟨_, rfl⟩
  rw [hx] at ham ⊢
  rw [hy] at hbm ⊢
  clear h1 h2 hx hy
  repeat' (first | refine zP ?_ | refine zA ?_ | (refine zM ?_; intro _ _) | refine zX ?_ | (refine zC ?_; intro _ _ _ _) | (refine zS ?_; intro _ _) | (apply Ws <;> intro hg))
  refine WC.loopX [(7, _), (8, _), (9, _), (10, _), (36, _), (37, _)] (fun s : Nat × Nat × Bool => [(11, .bool s.2.2), (38, .int .i64 (s.1 : Int))]) [] (fun s H' => s.1 ≤ ns.length ∧ n2 ≤ s.2.1 ∧ hasH T s.2.1 H' ∧ (s.2.2 = true ↔ ∃ i j k, i < s.1 ∧ j < ns.length ∧ k < ns.length ∧ provB ns x y i j k = true)) (fun s => ns.length - s.1) (0, n2, false) (by repeat' (first | exact .nil | refine .cons rfl ?_)) rfl
    ⟨Nat.zero_le _, Nat.le_refl _, hH2, by simp⟩ ?_
  clear hH2
  rintro ⟨i, n3, fnd⟩ H3 ⟨hi, hn3, hH3, hf⟩
  simp only at hi hn3 hH3 hf
  dsimp only [List.cons_append, List.nil_append]
  repeat' (first | refine zP ?_ | refine zA ?_ | (refine zM ?_; intro _ _) | refine zX ?_ | (refine zC ?_; intro _ _ _ _) | (refine zS ?_; intro _ _) | (apply Ws <;> intro hg))
  refine WC.condP rfl (fun hlt => ?_) (fun hlt => ?_)
  · have hi' : i < ns.length := by omega
    repeat' (first | refine zP ?_ | refine zA ?_ | (refine zM ?_; intro _ _) | refine zX ?_ | (refine zC ?_; intro _ _ _ _) | (refine zS ?_; intro _ _) | (apply Ws <;> intro hg))
    refine WC.loopX [(7, _), (8, _), (9, _), (10, _), (12, _), (13, _), (36, _), (37, _), (38, _), (43, _), (44, _)] (fun s : Nat × Nat × Bool => [(11, .bool s.2.2), (45, .int .i64 (s.1 : Int))]) [] (fun s H' => s.1 ≤ ns.length ∧ n2 ≤ s.2.1 ∧ hasH T s.2.1 H' ∧ (s.2.2 = true ↔ fnd = true ∨ ∃ j k, j < s.1 ∧ k < ns.length ∧ provB ns x y i j k = true)) (fun s => ns.length - s.1) (0, n3, fnd) (by repeat' (first | exact .nil | refine .cons rfl ?_)) rfl
      ⟨Nat.zero_le _, hn3, hH3, by simp⟩ ?_
    clear hH3
    rintro ⟨j, n4, fnd2⟩ H4 ⟨hj, hn4, hH4, hf2⟩
    simp only at hj hn4 hH4 hf2
    dsimp only [List.cons_append, List.nil_append]
    repeat' (first | refine zP ?_ | refine zA ?_ | (refine zM ?_; intro _ _) | refine zX ?_ | (refine zC ?_; intro _ _ _ _) | (refine zS ?_; intro _ _) | (apply Ws <;> intro hg))
    refine WC.condP rfl (fun hlt2 => ?_) (fun hlt2 => ?_)
    · have hj' : j < ns.length := by omega
      repeat' (first | refine zP ?_ | refine zA ?_ | (refine zM ?_; intro _ _) | refine zX ?_ | (refine zC ?_; intro _ _ _ _) | (refine zS ?_; intro _ _) | (apply Ws <;> intro hg))
      refine WC.loopX [(7, _), (8, _), (9, _), (10, _), (12, _), (13, _), (14, _), (15, _), (36, _), (37, _), (38, _), (43, _), (44, _), (45, _), (50, _), (51, _)] (fun s : Nat × Nat × Bool => [(11, .bool s.2.2), (52, .int .i64 (s.1 : Int))]) [] (fun s H' => s.1 ≤ ns.length ∧ n2 ≤ s.2.1 ∧ hasH T s.2.1 H' ∧ (s.2.2 = true ↔ fnd2 = true ∨ ∃ k, k < s.1 ∧ provB ns x y i j k = true)) (fun s => ns.length - s.1) (0, n4, fnd2) (by repeat' (first | exact .nil | refine .cons rfl ?_)) rfl
        ⟨Nat.zero_le _, hn4, hH4, by simp⟩ ?_
      clear hH4
      rintro ⟨k, n5, fnd3⟩ H5 ⟨hk, hn5, hH5, hf3⟩
      simp only at hk hn5 hH5 hf3
      dsimp only [List.cons_append, List.nil_append]
      repeat' (first | refine zP ?_ | refine zA ?_ | (refine zM ?_; intro _ _) | refine zX ?_ | (refine zC ?_; intro _ _ _ _) | (refine zS ?_; intro _ _) | (apply Ws <;> intro hg))
      refine WC.condP rfl (fun hlt3 => ?_) (fun hlt3 => ?_)
      · have hk' : k < ns.length := by omega
        (first | refine zA ?_ | (refine zM ?_; intro _ _) | (apply Ws <;> intro hg))
        (first | refine zA ?_ | (refine zM ?_; intro _ _) | (apply Ws <;> intro hg))
        (first | refine zA ?_ | (refine zM ?_; intro _ _) | (apply Ws <;> intro hg))
        (first | refine zA ?_ | (refine zM ?_; intro _ _) | (apply Ws <;> intro hg))
        refine WC.seq ?_
        refine WC.region ?_
        repeat' (first | refine zP ?_ | refine zR ?_ | (refine zM ?_; intro _ _) | refine zX ?_ | (refine zC ?_; intro _ _ _ _) | (refine zS ?_; intro _ _))
        refine WR.nil ?_
        refine Ends.seq ?_
        refine WC.seq ?_
        obtain ⟨ci, hci⟩ : ∃ c, ns.getD i 0 = c := ⟨_, rfl⟩
        obtain ⟨cj, hcj⟩ : ∃ c, ns.getD j 0 = c := ⟨_, rfl⟩
        obtain ⟨ck, hck⟩ : ∃ c, ns.getD k 0 = c := ⟨_, rfl⟩
        have hhci := hb62 _ (getD_mem (a := 0) hi')
        have hhcj := hb62 _ (getD_mem (a := 0) hj')
        have hhck := hb62 _ (getD_mem (a := 0) hk')
        have hpv : provB ns x y i j k = (ci.testBit x && ci.testBit y && cj.testBit x && !cj.testBit y && ck.testBit y && !ck.testBit x) := by rw [provB, hci, hcj, hck]
        rw [hci] at hhci
        rw [hcj] at hhcj
        rw [hck] at hhck
        rw [hci, hcj, hck]
        have hsh : ∀ c m, c < 2 ^ 62 → c >>> m < 2 ^ 63 := fun c m h => Nat.lt_of_le_of_lt (Nat.shiftRight_le c m) (by omega)
        refine WC.joinX [(7, _), (8, _), (9, _), (10, _), (11, _), (12, _), (13, _), (14, _), (15, _), (16, _), (36, _), (37, _), (38, _), (43, _), (44, _), (45, _), (50, _), (51, _), (52, _)] (by repeat' (first | exact .nil | refine .cons rfl ?_)) (fun w : Bool => [(18, .bool w)]) (fun w H' => w = provB ns x y i j k ∧ H' = H5) ?_ ?_
        · refine WC.region ?_
          repeat' (first | refine zP ?_ | refine zR ?_ | (refine zM ?_; intro _ _) | refine zX ?_ | (refine zC ?_; intro _ _ _ _) | (refine zS ?_; intro _ _))
          refine WR.op (by first | exact gN | exact gS rfl) rfl (OpV.shrN rfl rfl (by show x ≤ 64; omega)) ?_
          refine WR.op (by first | exact gN | exact gS rfl) rfl (OpV.andN (b := 1) rfl rfl (hsh ci x hhci) (by decide)) ?_
          rw [shr_one]
          repeat' (first | refine zP ?_ | refine zR ?_ | (refine zM ?_; intro _ _) | refine zX ?_ | (refine zC ?_; intro _ _ _ _) | (refine zS ?_; intro _ _))
          rw [bit_eq1]
          cases e1 : (ci.testBit x) with
          | false =>
            repeat' (first | refine zP ?_ | refine zA ?_ | (refine zM ?_; intro _ _) | refine zX ?_ | (refine zC ?_; intro _ _ _ _) | (refine zS ?_; intro _ _) | (apply Ws <;> intro hg))
            exact Ends.midX false (by repeat' (first | exact .nil | refine .cons rfl ?_)) ⟨by rw [hpv]; simp [e1], rfl⟩
          | true =>
          repeat' (first | refine zP ?_ | refine zR ?_ | (refine zM ?_; intro _ _) | refine zX ?_ | (refine zC ?_; intro _ _ _ _) | (refine zS ?_; intro _ _))
          refine WR.op (by first | exact gN | exact gS rfl) rfl (OpV.shrN rfl rfl (by show y ≤ 64; omega)) ?_
          refine WR.op (by first | exact gN | exact gS rfl) rfl (OpV.andN (b := 1) rfl rfl (hsh ci y hhci) (by decide)) ?_
          rw [shr_one]
          repeat' (first | refine zP ?_ | refine zR ?_ | (refine zM ?_; intro _ _) | refine zX ?_ | (refine zC ?_; intro _ _ _ _) | (refine zS ?_; intro _ _))
          rw [bit_eq1]
          cases e2 : (ci.testBit y) with
          | false =>
            repeat' (first | refine zP ?_ | refine zA ?_ | (refine zM ?_; intro _ _) | refine zX ?_ | (refine zC ?_; intro _ _ _ _) | (refine zS ?_; intro _ _) | (apply Ws <;> intro hg))
            exact Ends.midX false (by repeat' (first | exact .nil | refine .cons rfl ?_)) ⟨by rw [hpv]; simp [e1, e2], rfl⟩
          | true =>
          repeat' (first | refine zP ?_ | refine zR ?_ | (refine zM ?_; intro _ _) | refine zX ?_ | (refine zC ?_; intro _ _ _ _) | (refine zS ?_; intro _ _))
          refine WR.op (by first | exact gN | exact gS rfl) rfl (OpV.shrN rfl rfl (by show x ≤ 64; omega)) ?_
          refine WR.op (by first | exact gN | exact gS rfl) rfl (OpV.andN (b := 1) rfl rfl (hsh cj x hhcj) (by decide)) ?_
          rw [shr_one]
          repeat' (first | refine zP ?_ | refine zR ?_ | (refine zM ?_; intro _ _) | refine zX ?_ | (refine zC ?_; intro _ _ _ _) | (refine zS ?_; intro _ _))
          rw [bit_eq1]
          cases e3 : (cj.testBit x) with
          | false =>
            repeat' (first | refine zP ?_ | refine zA ?_ | (refine zM ?_; intro _ _) | refine zX ?_ | (refine zC ?_; intro _ _ _ _) | (refine zS ?_; intro _ _) | (apply Ws <;> intro hg))
            exact Ends.midX false (by repeat' (first | exact .nil | refine .cons rfl ?_)) ⟨by rw [hpv]; simp [e1, e2, e3], rfl⟩
          | true =>
          repeat' (first | refine zP ?_ | refine zR ?_ | (refine zM ?_; intro _ _) | refine zX ?_ | (refine zC ?_; intro _ _ _ _) | (refine zS ?_; intro _ _))
          refine WR.op (by first | exact gN | exact gS rfl) rfl (OpV.shrN rfl rfl (by show y ≤ 64; omega)) ?_
          refine WR.op (by first | exact gN | exact gS rfl) rfl (OpV.andN (b := 1) rfl rfl (hsh cj y hhcj) (by decide)) ?_
          rw [shr_one]
          repeat' (first | refine zP ?_ | refine zR ?_ | (refine zM ?_; intro _ _) | refine zX ?_ | (refine zC ?_; intro _ _ _ _) | (refine zS ?_; intro _ _))
          rw [bit_eq0]
          cases e4 : (cj.testBit y) with
          | true =>
            repeat' (first | refine zP ?_ | refine zA ?_ | (refine zM ?_; intro _ _) | refine zX ?_ | (refine zC ?_; intro _ _ _ _) | (refine zS ?_; intro _ _) | (apply Ws <;> intro hg))
            exact Ends.midX false (by repeat' (first | exact .nil | refine .cons rfl ?_)) ⟨by rw [hpv]; simp [e1, e2, e3, e4], rfl⟩
          | false =>
          repeat' (first | refine zP ?_ | refine zR ?_ | (refine zM ?_; intro _ _) | refine zX ?_ | (refine zC ?_; intro _ _ _ _) | (refine zS ?_; intro _ _))
          refine WR.op (by first | exact gN | exact gS rfl) rfl (OpV.shrN rfl rfl (by show x ≤ 64; omega)) ?_
          refine WR.op (by first | exact gN | exact gS rfl) rfl (OpV.andN (b := 1) rfl rfl (hsh ck x hhck) (by decide)) ?_
          rw [shr_one]
          repeat' (first | refine zP ?_ | refine zR ?_ | (refine zM ?_; intro _ _) | refine zX ?_ | (refine zC ?_; intro _ _ _ _) | (refine zS ?_; intro _ _))
          rw [bit_eq0]
          cases e5 : (ck.testBit x) with
          | true =>
            repeat' (first | refine zP ?_ | refine zA ?_ | (refine zM ?_; intro _ _) | refine zX ?_ | (refine zC ?_; intro _ _ _ _) | (refine zS ?_; intro _ _) | (apply Ws <;> intro hg))
            exact Ends.midX false (by repeat' (first | exact .nil | refine .cons rfl ?_)) ⟨by rw [hpv]; simp [e1, e2, e3, e4, e5], rfl⟩
          | false =>
          repeat' (first | refine zP ?_ | refine zR ?_ | (refine zM ?_; intro _ _) | refine zX ?_ | (refine zC ?_; intro _ _ _ _) | (refine zS ?_; intro _ _))
          refine WR.op (by first | exact gN | exact gS rfl) rfl (OpV.shrN rfl rfl (by show y ≤ 64; omega)) ?_
          refine WR.op (by first | exact gN | exact gS rfl) rfl (OpV.andN (b := 1) rfl rfl (hsh ck y hhck) (by decide)) ?_
          rw [shr_one]
          repeat' (first | refine zP ?_ | refine zR ?_ | (refine zM ?_; intro _ _) | refine zX ?_ | (refine zC ?_; intro _ _ _ _) | (refine zS ?_; intro _ _))
          rw [bit_eq1]
          cases e6 : (ck.testBit y) with
          | false =>
            repeat' (first | refine zP ?_ | refine zA ?_ | (refine zM ?_; intro _ _) | refine zX ?_ | (refine zC ?_; intro _ _ _ _) | (refine zS ?_; intro _ _) | (apply Ws <;> intro hg))
            exact Ends.midX false (by repeat' (first | exact .nil | refine .cons rfl ?_)) ⟨by rw [hpv]; simp [e1, e2, e3, e4, e5, e6], rfl⟩
          | true =>
          repeat' (first | refine zP ?_ | refine zR ?_ | (refine zM ?_; intro _ _) | refine zX ?_ | (refine zC ?_; intro _ _ _ _) | (refine zS ?_; intro _ _))
          repeat' (first | refine zP ?_ | refine zA ?_ | (refine zM ?_; intro _ _) | refine zX ?_ | (refine zC ?_; intro _ _ _ _) | (refine zS ?_; intro _ _) | (apply Ws <;> intro hg))
          exact Ends.midX true (by repeat' (first | exact .nil | refine .cons rfl ?_)) ⟨by rw [hpv]; simp [e1, e2, e3, e4, e5, e6], rfl⟩
        rintro _ H6 ⟨rfl, rfl⟩
        dsimp only [List.cons_append, List.nil_append]
        clear hpv hhci hhcj hhck hci hcj hck hsh
        repeat' (first | refine zP ?_ | refine zA ?_ | (refine zM ?_; intro _ _) | refine zX ?_ | (refine zC ?_; intro _ _ _ _) | (refine zS ?_; intro _ _) | (apply Ws <;> intro hg))
        refine WR.call (by first | exact gN | exact gS rfl) rfl rfl (Proves_fs hH5 (hSI ()) (by simp; omega) _ _ _ _ _) ?_
        rintro _ H7 ⟨rfl, n7, hn7, hH7⟩
        clear hH5
        rw [prov_val hE0 ham hbm hi' hj' hk']
        cases hpb : provB ns x y i j k with
        | true =>
          rw [if_pos rfl]
          repeat' (first | refine zP ?_ | refine zA ?_ | (refine zM ?_; intro _ _) | refine zX ?_ | (refine zC ?_; intro _ _ _ _) | (refine zS ?_; intro _ _) | (apply Ws <;> intro hg))
          refine WR.op (by first | exact gN | exact gS rfl) rfl (OpV.neB (nq4 _ _) rfl rfl) ?_
          rw [show (true != decide ((0 : Int) = 0)) = false from rfl]
          cases fnd3 with
          | true =>
            repeat' (first | refine zP ?_ | refine zA ?_ | (refine zM ?_; intro _ _) | refine zX ?_ | (refine zC ?_; intro _ _ _ _) | (refine zS ?_; intro _ _) | (apply Ws <;> intro hg))
            exact Ends.loop (k + 1, n7, true) (by show ns.length - (k + 1) < ns.length - k; omega) (by repeat' (first | exact .nil | refine .cons rfl ?_)) rfl ⟨hk', by simp only; omega, hH7, ⟨fun _ => .inr ⟨k, by simp only; omega, hpb⟩, fun _ => rfl⟩⟩
          | false =>
            repeat' (first | refine zP ?_ | refine zA ?_ | (refine zM ?_; intro _ _) | refine zX ?_ | (refine zC ?_; intro _ _ _ _) | (refine zS ?_; intro _ _) | (apply Ws <;> intro hg))
            exact Ends.loop (k + 1, n7, true) (by show ns.length - (k + 1) < ns.length - k; omega) (by repeat' (first | exact .nil | refine .cons rfl ?_)) rfl ⟨hk', by simp only; omega, hH7, ⟨fun _ => .inr ⟨k, by simp only; omega, hpb⟩, fun _ => rfl⟩⟩
        | false =>
          rw [if_neg (by decide)]
          repeat' (first | refine zP ?_ | refine zA ?_ | (refine zM ?_; intro _ _) | refine zX ?_ | (refine zC ?_; intro _ _ _ _) | (refine zS ?_; intro _ _) | (apply Ws <;> intro hg))
          refine WR.op (by first | exact gN | exact gS rfl) rfl (OpV.neB (nq4 _ _) rfl rfl) ?_
          rw [show (false != decide ((14 : Int) = 0)) = false from rfl]
          have hstep : ∀ k', k' < k + 1 → provB ns x y i j k' = true → k' < k := fun k' h1 h2 => by
            by_cases h : k' = k
            · subst h; rw [hpb] at h2; cases h2
            · omega
          cases fnd3 with
          | true =>
            repeat' (first | refine zP ?_ | refine zA ?_ | (refine zM ?_; intro _ _) | refine zX ?_ | (refine zC ?_; intro _ _ _ _) | (refine zS ?_; intro _ _) | refine zO ?_ | (apply Ws <;> intro hg))
            exact Ends.loop (k + 1, n7, true) (by show ns.length - (k + 1) < ns.length - k; omega) (by repeat' (first | exact .nil | refine .cons rfl ?_)) rfl ⟨hk', by simp only; omega, hH7, ⟨fun _ => by
              rcases hf3.1 rfl with h | ⟨k', h1, h2⟩
              · exact .inl h
              · exact .inr ⟨k', by simp only; omega, h2⟩, fun _ => rfl⟩⟩
          | false =>
            repeat' (first | refine zP ?_ | refine zA ?_ | (refine zM ?_; intro _ _) | refine zX ?_ | (refine zC ?_; intro _ _ _ _) | (refine zS ?_; intro _ _) | refine zO ?_ | (apply Ws <;> intro hg))
            exact Ends.loop (k + 1, n7, false) (by show ns.length - (k + 1) < ns.length - k; omega) (by repeat' (first | exact .nil | refine .cons rfl ?_)) rfl ⟨hk', by simp only; omega, hH7, ⟨fun h => (by cases h), fun h => hf3.2 (by
              rcases h with h | ⟨k', h1, h2⟩
              · exact .inl h
              · exact .inr ⟨k', hstep k' h1 h2, h2⟩)⟩⟩
      · repeat' (first | refine zP ?_ | refine zA ?_ | (refine zM ?_; intro _ _) | refine zX ?_ | (refine zC ?_; intro _ _ _ _) | (refine zS ?_; intro _ _) | (apply Ws <;> intro hg))
        refine Ends.loop (j + 1, n5, fnd3) (by show ns.length - (j + 1) < ns.length - j; omega) (by repeat' (first | exact .nil | refine .cons rfl ?_)) rfl ⟨hj', hn5, hH5, ?_⟩
        simp only
        rw [hf3, hf2, or_assoc]
        refine or_congr_right ⟨?_, ?_⟩
        · rintro (⟨j', k', h1, h2⟩ | ⟨k', h1, h2⟩)
          · exact ⟨j', k', by omega, h2⟩
          · exact ⟨j, k', by omega, by omega, h2⟩
        · rintro ⟨j', k', h1, h2, h3⟩
          by_cases h : j' = j
          · subst h; exact .inr ⟨k', by omega, h3⟩
          · exact .inl ⟨j', k', by omega, h2, h3⟩
    · repeat' (first | refine zP ?_ | refine zA ?_ | (refine zM ?_; intro _ _) | refine zX ?_ | (refine zC ?_; intro _ _ _ _) | (refine zS ?_; intro _ _) | (apply Ws <;> intro hg))
      refine Ends.loop (i + 1, n4, fnd2) (by show ns.length - (i + 1) < ns.length - i; omega) (by repeat' (first | exact .nil | refine .cons rfl ?_)) rfl ⟨hi', hn4, hH4, ?_⟩
      simp only
      rw [hf2, hf]
      constructor
      · rintro (⟨i', j', k', h1, h2⟩ | ⟨j', k', h1, h2⟩)
        · exact ⟨i', j', k', by omega, h2⟩
        · exact ⟨i, j', k', by omega, by omega, h2⟩
      · rintro ⟨i', j', k', h1, h2, h3⟩
        by_cases h : i' = i
        · subst h; exact .inr ⟨j', k', by omega, h3⟩
        · exact .inl ⟨i', j', k', by omega, h2, h3⟩
  · have hil : ns.length = i := by omega
    subst hil
    have hfc : fnd = clashB ns x y := by
      rw [Bool.eq_iff_iff, hf, prov_any]
    subst hfc
    clear hf
    repeat' (first | refine zP ?_ | refine zA ?_ | (refine zM ?_; intro _ _) | refine zX ?_ | (refine zC ?_; intro _ _ _ _) | (refine zS ?_; intro _ _) | (apply Ws <;> intro hg))
    refine WR.call (by first | exact gN | exact gS rfl) rfl rfl (Proves_fs hH3 (hSI ()) (by simp; omega) _ _ _ _ _) ?_
    rintro _ H7 ⟨rfl, n7, hn7, hH7⟩
    clear hH3
    have hP2 : provE (N : Int) (ns.map fun (x : Nat) => (x : Int)) (x : Int) (y : Int) 0 0 (ns.length : Int) = 2 := by
      rw [provE, if_neg (by omega), if_pos (by rw [List.length_map]; omega)]
    rw [hP2]
    repeat' (first | refine zP ?_ | refine zA ?_ | (refine zM ?_; intro _ _) | refine zX ?_ | (refine zC ?_; intro _ _ _ _) | (refine zS ?_; intro _ _) | (apply Ws <;> intro hg))
    refine WR.call (by first | exact gN | exact gS rfl) rfl rfl (Honest_fs hH7 (hSI ()) (by simp; omega)) ?_
    rintro _ H8 ⟨rfl, n8, hn8, hH8⟩
    rw [if_pos hE0, hE0, cast_toNat, Int.toNat_natCast]
    have hcl : clashB ns x y = true → honB N ns = false := fun h => by
      cases hh : honB N ns with
      | false => rfl
      | true =>
        rcases Nat.lt_trichotomy x y with h1 | h1 | h1
        · rw [hon_iff.1 hh x y h1 hbm] at h; cases h
        · subst h1; rw [clash_self] at h; cases h
        · rw [clash_comm, hon_iff.1 hh y x h1 ham] at h; cases h
    cases hcb : clashB ns x y with
    | true =>
      rw [hcl hcb]
      by_cases hxy : (x : Int) = y
      · repeat' (first | refine zP ?_ | refine zA ?_ | (refine zM ?_; intro _ _) | refine zX ?_ | (refine zC ?_; intro _ _ _ _) | (refine zS ?_; intro _ _) | refine zO ?_ | (apply Ws <;> intro hg))
        refine WR.call (by first | exact gN | exact gS rfl) rfl rfl (FS.works (C := C) (R := fun v H' => v = .bool true) rfl) ?_
        rintro _ _ rfl
        repeat' (first | refine zP ?_ | refine zA ?_ | (refine zM ?_; intro _ _) | refine zX ?_ | (refine zC ?_; intro _ _ _ _) | (refine zS ?_; intro _ _) | (apply Ws <;> intro hg))
        exact Ends.ret1 rfl rfl
      · repeat' (first | refine zP ?_ | refine zA ?_ | (refine zM ?_; intro _ _) | refine zX ?_ | (refine zC ?_; intro _ _ _ _) | (refine zS ?_; intro _ _) | refine zO ?_ | (apply Ws <;> intro hg))
        refine WR.call (by first | exact gN | exact gS rfl) rfl rfl (lclash_fs (a := x) (b := y) hH8 hS (by omega) hb62 (by omega) (by omega)) ?_
        rintro _ H9 ⟨rfl, n9, hn9, hH9⟩
        rw [hcb]
        refine WR.op (by first | exact gN | exact gS rfl) rfl (OpV.eqB (eqlB _ _) rfl rfl) ?_
        rw [beq_self_eq_true]
        repeat' (first | refine zP ?_ | refine zA ?_ | (refine zM ?_; intro _ _) | refine zX ?_ | (refine zC ?_; intro _ _ _ _) | (refine zS ?_; intro _ _) | (apply Ws <;> intro hg))
        refine WR.call (by first | exact gN | exact gS rfl) rfl rfl (FS.works (C := C) (R := fun v H' => v = .bool true) rfl) ?_
        rintro _ _ rfl
        repeat' (first | refine zP ?_ | refine zA ?_ | (refine zM ?_; intro _ _) | refine zX ?_ | (refine zC ?_; intro _ _ _ _) | (refine zS ?_; intro _ _) | (apply Ws <;> intro hg))
        exact Ends.ret1 rfl rfl
    | false =>
      by_cases hxy : (x : Int) = y
      · repeat' (first | refine zP ?_ | refine zA ?_ | (refine zM ?_; intro _ _) | refine zX ?_ | (refine zC ?_; intro _ _ _ _) | (refine zS ?_; intro _ _) | refine zO ?_ | (apply Ws <;> intro hg))
        refine WR.call (by first | exact gN | exact gS rfl) rfl rfl (FS.works (C := C) (R := fun v H' => v = .bool true) rfl) ?_
        rintro _ _ rfl
        repeat' (first | refine zP ?_ | refine zA ?_ | (refine zM ?_; intro _ _) | refine zX ?_ | (refine zC ?_; intro _ _ _ _) | (refine zS ?_; intro _ _) | (apply Ws <;> intro hg))
        exact Ends.ret1 rfl rfl
      · repeat' (first | refine zP ?_ | refine zA ?_ | (refine zM ?_; intro _ _) | refine zX ?_ | (refine zC ?_; intro _ _ _ _) | (refine zS ?_; intro _ _) | refine zO ?_ | (apply Ws <;> intro hg))
        refine WR.call (by first | exact gN | exact gS rfl) rfl rfl (lclash_fs (a := x) (b := y) hH8 hS (by omega) hb62 (by omega) (by omega)) ?_
        rintro _ H9 ⟨rfl, n9, hn9, hH9⟩
        rw [hcb]
        refine WR.op (by first | exact gN | exact gS rfl) rfl (OpV.eqB (eqlB _ _) rfl rfl) ?_
        rw [beq_self_eq_true]
        repeat' (first | refine zP ?_ | refine zA ?_ | (refine zM ?_; intro _ _) | refine zX ?_ | (refine zC ?_; intro _ _ _ _) | (refine zS ?_; intro _ _) | (apply Ws <;> intro hg))
        refine WR.call (by first | exact gN | exact gS rfl) rfl rfl (FS.works (C := C) (R := fun v H' => v = .bool true) rfl) ?_
        rintro _ _ rfl
        repeat' (first | refine zP ?_ | refine zA ?_ | (refine zM ?_; intro _ _) | refine zX ?_ | (refine zC ?_; intro _ _ _ _) | (refine zS ?_; intro _ _) | (apply Ws <;> intro hg))
        exact Ends.ret1 rfl rfl
end
end Go.Proofs.Ytblopbimchkneaa.Md
