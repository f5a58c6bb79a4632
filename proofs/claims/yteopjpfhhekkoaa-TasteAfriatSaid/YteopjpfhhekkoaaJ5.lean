/- Texts of the law, joined. -/
import Derived.Test.YteopjpfhhekkoaaJ4
/- What the laws share. -/
namespace Go.Abs
set_option linter.unusedSectionVars false
open Go
section
variable [Globs] {C : CW} {nt : Nat} {L : Env} {D : List Nat} {H H' : Heap} {K : St → Prop} {M M' : HL} {n i d : Nat} {gd : Option (Tmp × Bool)} {lo : List Nat} {l : List POp} {rs : List Rd}
theorem WD.append {e sz : Nat} {s x : Operand} {v y : Value} {cs : List Value} {Mx M0 : HL} {k : Nat} {new : List Value} (hg : gOK L gd) (hd : Nat.blt d nt = true) (hs : ev L s = some v) (hy : ev L x = some y)
    (hO : Own e sz v cs Mx) (hH : hasH M n H) (hM : M'.Sublist M) (hp : M'.Perm (Mx ++ M0)) (hk : srcLen y = some k) (hx : srcCells H sz k y = some new) (hl : new.length = k * sz) (h1 : 1 ≤ k) (hone : new.all one = true) (hs1 : 1 ≤ sz) (hs2 : sz ≤ 1000)
    (hsm : cs.length + new.length ≤ 100000) (kk : ∀ v' Mx' n' H', OwnR e sz v' (cs ++ new) Mx' → hasH (Mx' ++ M0) n' H' → n ≤ n' → stands H' lo rs = true ∧ WD C nt l rs ((d, v') :: L) D H' K) :
    WD C nt (⟨i, some d, .append e sz s x, gd, lo⟩ :: l) rs L D H K := by
  obtain ⟨v', Mx', n', H', q1, q2, q3, q4⟩ := append_ownR (P := C.c.P) hO ((hH.sub hM).perm hp) hk hx hl h1 hone hs1 hs2 hsm
  obtain ⟨k1, k2⟩ := kk v' Mx' n' H' q2 q3 q4
  refine WD.op hg hd (H' := H') (v := v') (fun t ht => ?_) rfl k1 k2
  simp only [opA, ev_ok ht hs, ev_ok ht hy, q1]
/-- One element more, what was read before may be read after. -/
theorem WD.append1F {j d2 : Nat} {e : Nat} {z : List Value} {s x : Operand} {lo2 : List Nat} {v y : Value} {cs : List Value} {new : Value} (F Mx T : HL) (hd : Nat.blt d nt = true) (hd2 : Nat.blt d2 nt = true)
    (hx : ev L x = some y) (hs : ev ((d, .slice (some ⟨n, 0, some 0⟩) 1 (2 * 1 + 1)) :: L) s = some v) (hO : Own e 1 v cs Mx) (hH : hasH (F ++ (Mx ++ T)) n H)
    (hc : Instr.fill (fun j => some (j * 1, 1)) z.toArray [(0, y)] = some [new].toArray) (hone : one new = true) (hsm : cs.length + 1 ≤ 100000)
    (hst : ∀ H', hasH ((n, .row e 0 0 [new]) :: (F ++ (Mx ++ T))) (n + 1) H' → stands H' lo rs = true)
    (kk : ∀ v' Mx' n' H', OwnR e 1 v' (cs ++ [new]) Mx' → hasH (F ++ (Mx' ++ T)) n' H' → n ≤ n' → stands H' lo2 rs = true ∧ WD C nt l rs ((d2, v') :: (d, .slice (some ⟨n, 0, some 0⟩) 1 (2 * 1 + 1)) :: L) D H' K) :
    WD C nt (⟨i, some d, .bldS e 1 z 1 [(0, x)], none, lo⟩ :: ⟨j, some d2, .append e 1 s (.tmp d), none, lo2⟩ :: l) rs L D H K := by
  refine WD.bldS True.intro hd hH (vs := [(0, y)]) (by simp only [evp, hx]) hc (by simp [hone]) hst fun H1 hH1 => ?_
  have hx2 : srcCells H1 1 1 (.slice (some ⟨n, 0, some 0⟩) 1 (2 * 1 + 1)) = some [new] := by
    have := hH1.readN (b := n) (u := 0) (lo := 0) (o := 0) (k := 1 * 1) (ch := .row e 0 0 [new]) (cs := [new]) (by simp) (.row _ _ _ _) (Nat.le_refl _) (by simp)
    simpa [srcCells] using this
  have hy : ev ((d, .slice (some ⟨n, 0, some 0⟩) 1 (2 * 1 + 1)) :: L) (.tmp d) = some (.slice (some ⟨n, 0, some 0⟩) 1 (2 * 1 + 1)) := by simp [ev, Env.get]
  refine WD.append True.intro hd2 hs hy hO hH1 (M' := F ++ (Mx ++ T)) (List.sublist_cons_self _ _) (M0 := F ++ T) (List.perm_append_comm_assoc F Mx T) rfl hx2 (by simp) (Nat.le_refl _) (by simp [hone]) (Nat.le_refl _) (by omega) (by simpa using hsm) fun v' Mx' n' H' q1 q2 q3 => ?_
  exact kk v' Mx' n' H' q1 (q2.perm (List.perm_append_comm_assoc Mx' F T)) (by omega)
end
end Go.Abs
namespace Go.Proofs.Yteopjpfhhekkoaa.Tt
open Go Go.Abs Go.Mth
set_option linter.unusedVariables false
set_option linter.unusedSimpArgs false
theorem u16k : C.c.P.underlying 62 = some (.int .u16) := by kernel_rfl
theorem eqlB : ∀ a b : Bool, pureRun C.c.P (binOp .eql 4 (.bool a) (.bool b)) = some (.bool (a == b)) := by
  intro a b
  cases a <;> cases b <;> kernel_rfl
theorem nq4 : ∀ a b : Bool, pureRun C.c.P (binOp .neq 4 (.bool a) (.bool b)) = some (.bool (a != b)) := by
  intro a b
  cases a <;> cases b <;> kernel_rfl
theorem numsK_one (kk : IntKind) (l : List Nat) : (numsK kk l).all one = true := by
  rw [List.all_eq_true]; intro q hq; obtain ⟨z, _, rfl⟩ := List.mem_map.1 hq; rfl
theorem err0 {g : Nat} {S : List Sal} (h : OKS g S) : errS (g : Int) S = 0 := errS_zero.2 ⟨g, rfl, h⟩
theorem NumOut.ok {M : HL} {g : Nat} {S : List Sal} {e : Value} (hok : OKS g S) (h : NumOut M g S e) : ∃ a b, one a = true ∧ one b = true ∧ ((tasteB (matS S) = true ∧ e = .tuple #[a, b, .int .i64 0] ∧ ∃ W V, RngP S.length W V ∧ NumP (matS S) W V ∧ Sl M 1 a (ints W) ∧ Sl M 1 b (ints V)) ∨
    (tasteB (matS S) = false ∧ a = .slice none 0 0 ∧ b = .slice none 0 0 ∧ e = .tuple #[a, b, .int .i64 13])) := by
  obtain ⟨a, b, he, ha, hb, hc⟩ := h
  rw [if_neg (not_not_intro (err0 hok))] at he
  refine ⟨a, b, ha, hb, ?_⟩
  rcases hc with ⟨_, h2, h3⟩ | ⟨h1, h2, h3⟩
  · rw [if_pos h2] at he; exact .inl ⟨h2, he, h3⟩
  · rcases h1 with h1 | h1
    · exact absurd (err0 hok) h1
    · rw [h1, if_neg (by decide)] at he; exact .inr ⟨h1, h2, h3, he⟩
theorem RingOut.ok {M : HL} {g : Nat} {S : List Sal} {e : Value} (hok : OKS g S) (h : RingOut M g S e) : ∃ u, one u = true ∧ ((tasteB (matS S) = true ∧ u = .slice none 0 0 ∧ e = .tuple #[u, .int .i64 13]) ∨ (tasteB (matS S) = false ∧ e = .tuple #[u, .int .i64 0] ∧ ∃ z, firstRing (matS S) = some z ∧ Sl M 1 u (nodes z))) := by
  obtain ⟨u, he, hu, hc⟩ := h
  rw [if_neg (not_not_intro (err0 hok))] at he
  refine ⟨u, hu, ?_⟩
  rcases hc with ⟨_, z, h2, h3⟩ | ⟨h1, h2⟩
  · have htb : tasteB (matS S) = false := by rw [tasteB, h2]; rfl
    rw [htb, if_neg (by decide)] at he
    exact .inr ⟨htb, he, z, h2, h3⟩
  · rcases h1 with h1 | h1
    · exact absurd (err0 hok) h1
    · rw [if_pos h1] at he; exact .inl ⟨h1, h2, he⟩
theorem RanksOut.ok {M : HL} {g : Nat} {S : List Sal} {e : Value} (hok : OKS g S) (h : RanksOut M g S e) : ∃ u, one u = true ∧ ((tasteB (matS S) = false ∧ u = .slice none 0 0 ∧ e = .tuple #[u, .int .i64 13]) ∨ (tasteB (matS S) = true ∧ e = .tuple #[u, .int .i64 0] ∧ Sl M 1 u (nodes (rkL (DP (matS S)) S.length)))) := by
  obtain ⟨u, he, hu, hc⟩ := h
  rw [if_neg (not_not_intro (err0 hok))] at he
  refine ⟨u, hu, ?_⟩
  rcases hc with ⟨_, h2, h3⟩ | ⟨h1, h2⟩
  · rw [if_pos h2] at he
    rw [matS_len] at h3
    exact .inr ⟨h2, he, h3⟩
  · rcases h1 with h1 | h1
    · exact absurd (err0 hok) h1
    · rw [h1, if_neg (by decide)] at he; exact .inl ⟨h1, h2, he⟩
/-- A ring that was found first. -/
theorem ring_facts {S : List Sal} {z : List Nat} (h : firstRing (matS S) = some z) : 1 ≤ z.length ∧ z.length ≤ S.length ∧ (∀ x ∈ z, x < S.length) ∧ closL (DP (matS S)) z := by
  have hk := firstRing_least h
  have hl := hk.1.1.len
  rw [matS_len] at hl
  refine ⟨hl.1, hl.2, fun x hx => ?_, hk.1.1.2.2.1, hk.1.2⟩
  have := hk.1.1.2.1 x hx
  rwa [matS_len] at this
/-- To sales with a ring no numbers are right. -/
theorem num_taste {S : List Sal} {W V : List Int} (hr : RngP S.length W V) (h : NumP (matS S) W V) : tasteB (matS S) = true :=
  tasteB_iff.2 (num_none (fun a ha => by rw [matS_len] at ha; exact (hr.2.2.2 a ha).1) h)
end Go.Proofs.Yteopjpfhhekkoaa.Tt

/- TasteAfriat. -/
namespace Go.Proofs.Yteopjpfhhekkoaa.Tt
open Go Go.Abs Go.Mth
set_option linter.unusedVariables false
set_option linter.unusedSimpArgs false
structure XY where
  k : Nat
  a : Value
  b : Value
  Ma : HL
  Mb : HL
  n : Nat
def oneUp (l : List Nat) : List Nat := l.map fun x => 1 + x
attribute [local irreducible] gOK WS WC WR WD Ends FS YS OpV seqK blockK loopK midK retK rdK asgK rangeEnd sat Cell
section
variable {M : HL} {n0 : Nat} {H : Heap}
set_option maxHeartbeats 8000000 in
theorem TasteAfriat_fs (hH : hasH M n0 H) {xs wl vl : List Nat} (hl : xs.length = 39) (hb : ∀ x ∈ xs, x ≤ 255) (hwl : wl.length = 6) (hwb : ∀ x ∈ wl, x < 65536) (hvl : vl.length = 6) (hvb : ∀ x ∈ vl, x < 65536) :
    FS C 7 [.agg (numsK .u8 xs).toArray, .agg (numsK .u16 wl).toArray, .agg (numsK .u16 vl).toArray] H (fun e H' => e = .bool true) := by
  have ho1 := numsK_one .u8 xs
  have ho2 := numsK_one .u16 wl
  have ho3 := numsK_one .u16 vl
  have hxl : (numsK .u8 xs).length = 39 := by simpa using hl
  refine FS.intro (pf := pf7) rfl rfl rfl ?_
  repeat' (first | refine zP ?_ | refine zA ?_ | (refine zM ?_; intro _ _) | refine zX ?_ | (refine zC ?_; intro _ _ _ _) | (refine zS ?_; intro _ _) | (apply Ws <;> intro hg))
  rename_i H1 hH1 H2 hH2 H3 hH3
  clear hH hH1 hH2
  refine WR.call (by first | exact gN | exact gS rfl) rfl rfl (made_fs hH3 hl hb (most := 6) (by omega)) ?_
  rintro _ H4 ⟨S, v, n4, M4, hSE, hSl, hn4, hH4, hS, rfl⟩
  obtain ⟨g, hg⟩ : ∃ g, 1 + xs.getD 0 0 % 3 = g := ⟨_, rfl⟩
  rw [hg] at hSE
  have hmod := Nat.mod_lt (xs.getD 1 0) (show 0 < 6 + 1 by omega)
  have hok : OKS g S := .of (by omega) (by omega) (by omega) hSE
  have hlen := hok.len
  have h0 := err0 hok
  have hlenS := hok.lens
  rw [hg]
  have m4 : (n0 + 1, Ch.row 63 0 0 (numsK .u16 wl)) ∈ M4 ++ (n0 + 1 + 1, Ch.row 63 0 0 (numsK .u16 vl)) :: (n0 + 1, Ch.row 63 0 0 (numsK .u16 wl)) :: (n0, Ch.row 61 0 0 (numsK .u8 xs)) :: M := by simp
  have m5 : (n0 + 1 + 1, Ch.row 63 0 0 (numsK .u16 vl)) ∈ M4 ++ (n0 + 1 + 1, Ch.row 63 0 0 (numsK .u16 vl)) :: (n0 + 1, Ch.row 63 0 0 (numsK .u16 wl)) :: (n0, Ch.row 61 0 0 (numsK .u8 xs)) :: M := by simp
  generalize M4 ++ (n0 + 1 + 1, Ch.row 63 0 0 (numsK .u16 vl)) :: (n0 + 1, Ch.row 63 0 0 (numsK .u16 wl)) :: (n0, Ch.row 61 0 0 (numsK .u8 xs)) :: M = T at hH4 hS m4 m5
  clear hH3 hSE hSl hmod hg
  have hv := hS.one_
  repeat' (first | refine zP ?_ | refine zA ?_ | (refine zM ?_; intro _ _) | refine zX ?_ | (refine zC ?_; intro _ _ _ _) | (refine zS ?_; intro _ _) | (apply Ws <;> intro hg))
  refine WR.call (by first | exact gN | exact gS rfl) rfl rfl (Taste_fs hH4 hS hlenS g) ?_
  rintro _ H5 ⟨n5, hn5, hH5, rfl⟩
  rw [h0, decide_eq_true rfl, Bool.true_and]
  clear hH4
  repeat' (first | refine zP ?_ | refine zA ?_ | (refine zM ?_; intro _ _) | refine zX ?_ | (refine zC ?_; intro _ _ _ _) | (refine zS ?_; intro _ _) | (apply Ws <;> intro hg))
  refine WR.call (by first | exact gN | exact gS rfl) rfl rfl (Numbers_fs hH5 hS hlenS g) ?_
  rintro e6 H6 ⟨n6, M6, hn6, hH6, hNO⟩
  obtain ⟨na, nb, hna, hnb, hNO⟩ := hNO.ok hok
  obtain ⟨c6, he6⟩ : ∃ c6 : Int, e6 = .tuple #[na, nb, .int .i64 c6] := by
    rcases hNO with ⟨_, h, _⟩ | ⟨_, _, _, h⟩ <;> exact ⟨_, h⟩
  subst he6
  clear hH5
  replace hS := hS.mono (M' := M6 ++ T) fun q hq => List.mem_append_right _ hq
  replace m4 := List.mem_append_right M6 m4
  replace m5 := List.mem_append_right M6 m5
  generalize M6 ++ T = T at hH6 hS m4 m5 hNO
  repeat' (first | refine zP ?_ | refine zA ?_ | (refine zM ?_; intro _ _) | refine zX ?_ | (refine zC ?_; intro _ _ _ _) | (refine zS ?_; intro _ _) | (apply Ws <;> intro hg))
  refine WR.call (by first | exact gN | exact gS rfl) rfl rfl (Ring_fs hH6 hS hlenS g) ?_
  rintro e7 H7 ⟨n7, M7, hn7, hH7, hRO⟩
  obtain ⟨ra, hra, hRO⟩ := hRO.ok hok
  obtain ⟨c7, he7⟩ : ∃ c7 : Int, e7 = .tuple #[ra, .int .i64 c7] := by
    rcases hRO with ⟨_, _, h⟩ | ⟨_, h, _⟩ <;> exact ⟨_, h⟩
  subst he7
  clear hH6
  replace hS := hS.mono (M' := M7 ++ T) fun q hq => List.mem_append_right _ hq
  replace m4 := List.mem_append_right M7 m4
  replace m5 := List.mem_append_right M7 m5
  replace hNO : (tasteB (matS S) = true ∧ Value.tuple #[na, nb, .int .i64 c6] = .tuple #[na, nb, .int .i64 0] ∧ ∃ W V, RngP S.length W V ∧ NumP (matS S) W V ∧ Sl (M7 ++ T) 1 na (ints W) ∧ Sl (M7 ++ T) 1 nb (ints V)) ∨
    (tasteB (matS S) = false ∧ na = .slice none 0 0 ∧ nb = .slice none 0 0 ∧ Value.tuple #[na, nb, .int .i64 c6] = .tuple #[na, nb, .int .i64 13]) := by
    refine hNO.imp (fun ⟨k1, k2, W, V, k3, k4, k5, k6⟩ => ⟨k1, k2, W, V, k3, k4, k5.mono fun q hq => List.mem_append_right _ hq, k6.mono fun q hq => List.mem_append_right _ hq⟩) id
  generalize M7 ++ T = T at hH7 hS m4 m5 hNO hRO
  repeat' (first | refine zP ?_ | refine zA ?_ | (refine zM ?_; intro _ _) | refine zX ?_ | (refine zC ?_; intro _ _ _ _) | (refine zS ?_; intro _ _) | refine zO ?_ | (apply Ws <;> intro hg))
  refine WR.call (by first | exact gN | exact gS rfl) rfl rfl (ringed_fs hH7 hok hS) ?_
  rintro _ H8 ⟨n8, hn8, hH8, rfl⟩
  refine WR.op (by first | exact gN | exact gS rfl) rfl (OpV.eqB (eqlB _ _) rfl rfl) ?_
  rw [show (tasteB (matS S) == !tasteB (matS S)) = false by cases tasteB (matS S) <;> rfl]
  clear hH7
  obtain ⟨ws0, hV0, hwl0, hrow0⟩ := hS.at
  repeat' (first | refine zP ?_ | refine zA ?_ | (refine zM ?_; intro _ _) | refine zX ?_ | (refine zC ?_; intro _ _ _ _) | (refine zS ?_; intro _ _) | (apply Ws <;> intro hg))
  refine WR.op (by first | exact gN | exact gS rfl) rfl (OpV.lenK pairV_len (by decide) rfl hV0) ?_
  rw [hwl0]
  repeat' (first | refine zP ?_ | refine zA ?_ | (refine zM ?_; intro _ _) | refine zX ?_ | (refine zC ?_; intro _ _ _ _) | (refine zS ?_; intro _ _) | (apply Ws <;> intro hg))
  refine WC.loopX [(4, _), (5, _), (7, _), (8, _), (9, _), (10, _), (11, _), (12, _), (13, _), (14, _), (15, _), (55, _)] (fun s : XY => [(16, s.a), (17, s.b), (56, .int .i64 (s.k : Int))]) [] (fun s H' => s.k ≤ S.length ∧ n8 ≤ s.n ∧ Own 3 1 s.a (nodes (wl.take s.k)) s.Ma ∧ Own 3 1 s.b (nodes (oneUp (vl.take s.k))) s.Mb ∧ hasH (s.Ma ++ (s.Mb ++ T)) s.n H') (fun s => S.length - s.k) ⟨0, .slice none 0 0, .slice none 0 0, [], [], n8⟩ (by repeat' (first | exact .nil | refine .cons rfl ?_)) rfl
    ⟨Nat.zero_le _, Nat.le_refl _, .nil, .nil, hH8⟩ ?_
  clear hH8
  rintro ⟨k, xa, xb, Ma, Mb, n9⟩ H9 ⟨hk, hn9, hOa, hOb, hH9⟩
  simp only at hk hn9 hOa hOb hH9
  dsimp only [List.cons_append, List.nil_append]
  repeat' (first | refine zP ?_ | refine zA ?_ | (refine zM ?_; intro _ _) | refine zX ?_ | (refine zC ?_; intro _ _ _ _) | (refine zS ?_; intro _ _) | (apply Ws <;> intro hg))
  refine WC.condP rfl (fun hltk => ?_) (fun hltk => ?_)
  · have hk' : k < S.length := by omega
    have hwk := hwb _ (getD_mem (a := 0) (show k < wl.length by omega))
    have hvk := hvb _ (getD_mem (a := 0) (show k < vl.length by omega))
    have m6 : (n0 + 1, Ch.row 63 0 0 (numsK .u16 wl)) ∈ Ma ++ (Mb ++ T) := List.mem_append_right _ (List.mem_append_right _ m4)
    have m7 : (n0 + 1 + 1, Ch.row 63 0 0 (numsK .u16 vl)) ∈ Ma ++ (Mb ++ T) := List.mem_append_right _ (List.mem_append_right _ m5)
    repeat' (first | refine zP ?_ | refine zA ?_ | (refine zM ?_; intro _ _) | refine zX ?_ | (refine zC ?_; intro _ _ _ _) | (refine zS ?_; intro _ _) | (apply Ws <;> intro hg))
    refine WC.regionD ?_
    repeat' (first | refine zD ?_ | (refine zE ?_; intro _ _ _ _))
    refine WD.op (by first | exact gN | exact gS rfl) rfl (OpV.idxA rfl rfl rfl (by omega) (addr01 _ _ _)) rfl (stands_nil _ _) ?_
    repeat' (first | refine zD ?_ | (refine zE ?_; intro _ _ _ _))
    refine WD.op (by first | exact gN | exact gS rfl) rfl (OpV.conv u16k i64k rfl (c := ((wl.getD k 0 : Nat) : Int)) (IntWalk.i64_in _ (by omega))) rfl (stands_nil _ _) ?_
    repeat' (first | refine zD ?_ | (refine zE ?_; intro _ _ _ _))
    refine WD.op (by first | exact gN | exact gS rfl) rfl (OpV.idxA rfl rfl rfl (by omega) (addr01 _ _ _)) rfl (stands_nil _ _) ?_
    repeat' (first | refine zD ?_ | (refine zE ?_; intro _ _ _ _))
    refine WD.op (by first | exact gN | exact gS rfl) rfl (OpV.conv u16k i64k rfl (c := ((vl.getD k 0 : Nat) : Int)) (IntWalk.i64_in _ (by omega))) rfl (stands_nil _ _) ?_
    repeat' (first | refine zD ?_ | (refine zE ?_; intro _ _ _ _))
    rw [show (1 : Int) + ((vl.getD k 0 : Nat) : Int) = ((1 + vl.getD k 0 : Nat) : Int) by omega]
    have hst : ∀ {X : HL} {n : Nat} {H' : Heap}, (∀ q ∈ T, q ∈ X) → hasH X n H' → H'.read ⟨n0 + 1, k, some 0⟩ = some (.int .u16 ((wl.getD k 0 : Nat) : Int)) ∧ H'.read ⟨n0 + 1 + 1, k, some 0⟩ = some (.int .u16 ((vl.getD k 0 : Nat) : Int)) := fun hX h =>
      ⟨h.read (hX _ m4) (.row _ _ _ _) (Nat.zero_le _) (nodes_get (by omega)), h.read (hX _ m5) (.row _ _ _ _) (Nat.zero_le _) (nodes_get (by omega))⟩
    refine WD.append1F [] Ma (Mb ++ T) rfl rfl rfl rfl hOa hH9 (new := .int .i64 ((wl.getD k 0 : Nat) : Int)) (by rfl) rfl (by simp; omega) (fun H' h => stands_cons (.inr (holds_at (hst (fun q hq => by simp [hq]) h).2 (same_int _ _))) (stands_cons (.inl rfl) stands_nil')) fun va Mx n10 H10 hOx hH10 hn10 => ⟨stands_cons (.inr (holds_at (hst (fun q hq => by simp [hq]) hH10).2 (same_int _ _))) (stands_cons (.inl rfl) stands_nil'), ?_⟩
    replace hH10 : hasH (Mx ++ (Mb ++ T)) n10 H10 := hH10
    refine WD.append1F Mx Mb T rfl rfl rfl rfl hOb hH10 (new := .int .i64 ((1 + vl.getD k 0 : Nat) : Int)) (by rw [Int.natCast_add]; rfl) rfl (by simp [oneUp]; omega) (fun H' h => stands_cons (.inl rfl) (stands_cons (.inr (holds_at (hst (fun q hq => by simp [hq]) h).1 (same_int _ _))) stands_nil')) fun vb My n11 H11 hOy hH11 hn11 => ⟨stands_cons (.inl rfl) (stands_cons (.inl rfl) stands_nil'), ?_⟩
    repeat' (first | refine zD ?_ | (refine zE ?_; intro _ _ _ _))
    refine WD.nil ?_
    repeat' (first | refine zP ?_ | refine zA ?_ | (refine zM ?_; intro _ _) | refine zX ?_ | (refine zC ?_; intro _ _ _ _) | (refine zS ?_; intro _ _) | (apply Ws <;> intro hg))
    refine Ends.loop ⟨k + 1, va, vb, Mx, My, n11⟩ (by simp only; omega) (by repeat' (first | exact .nil | refine .cons rfl ?_)) rfl ⟨by simp only; omega, by simp only; omega, ?_, ?_, hH11⟩
    · simp only
      rw [take_snoc' (d := 0) (by omega), show nodes (wl.take k ++ [wl.getD k 0]) = nodes (wl.take k) ++ [.int .i64 ((wl.getD k 0 : Nat) : Int)] by simp [nodes]]
      exact hOx.own
    · simp only
      rw [take_snoc' (d := 0) (by omega), show nodes (oneUp (vl.take k ++ [vl.getD k 0])) = nodes (oneUp (vl.take k)) ++ [.int .i64 ((1 + vl.getD k 0 : Nat) : Int)] by simp [nodes, oneUp]]
      exact hOy.own
  · have hkl : k = S.length := by omega
    subst hkl
    have hSa := hOa.sl (Mb ++ T)
    have hSb := (hOb.sl T).mono (M' := Ma ++ (Mb ++ T)) fun q hq => List.mem_append_right _ hq
    obtain ⟨W, hWe⟩ : ∃ W, W = wl.take S.length := ⟨_, rfl⟩
    obtain ⟨V, hVe⟩ : ∃ V, V = oneUp (vl.take S.length) := ⟨_, rfl⟩
    have hWl : (IL W).length = S.length := by rw [IL_len, hWe, List.length_take]; omega
    have hVl : (IL V).length = S.length := by rw [IL_len, hVe, oneUp, List.length_map, List.length_take]; omega
    have hWb : withB 0 1000000000000 (IL W) = true := withB_iff.2 fun x hx => by
      obtain ⟨y, hy, rfl⟩ := List.mem_map.1 hx
      have := hwb y (List.mem_of_mem_take (by rw [← hWe]; exact hy)); omega
    have hVb : withB 1 1000000000000 (IL V) = true := withB_iff.2 fun x hx => by
      obtain ⟨y, hy, rfl⟩ := List.mem_map.1 hx
      rw [hVe] at hy
      obtain ⟨z, hz, rfl⟩ := List.mem_map.1 hy
      have := hvb z (List.mem_of_mem_take hz); omega
    have hrg : RngP S.length (IL W) (IL V) := rng_of.2 ⟨⟨hWl, hVl⟩, hWb, hVb⟩
    rw [← hWe] at hSa
    rw [← hVe] at hSb
    rw [nodes_IL] at hSa hSb
    clear hOa hOb hWe hVe m4 m5
    replace hS := hS.mono (M' := Ma ++ (Mb ++ T)) fun q hq => List.mem_append_right _ (List.mem_append_right _ hq)
    replace hNO : (tasteB (matS S) = true ∧ Value.tuple #[na, nb, .int .i64 c6] = .tuple #[na, nb, .int .i64 0] ∧ ∃ W V, RngP S.length W V ∧ NumP (matS S) W V ∧ Sl (Ma ++ (Mb ++ T)) 1 na (ints W) ∧ Sl (Ma ++ (Mb ++ T)) 1 nb (ints V)) ∨
      (tasteB (matS S) = false ∧ na = .slice none 0 0 ∧ nb = .slice none 0 0 ∧ Value.tuple #[na, nb, .int .i64 c6] = .tuple #[na, nb, .int .i64 13]) := by
      refine hNO.imp (fun ⟨k1, k2, W, V, k3, k4, k5, k6⟩ => ⟨k1, k2, W, V, k3, k4, k5.mono fun q hq => List.mem_append_right _ (List.mem_append_right _ hq), k6.mono fun q hq => List.mem_append_right _ (List.mem_append_right _ hq)⟩) id
    replace hRO : (tasteB (matS S) = true ∧ ra = .slice none 0 0 ∧ Value.tuple #[ra, .int .i64 c7] = .tuple #[ra, .int .i64 13]) ∨ (tasteB (matS S) = false ∧ Value.tuple #[ra, .int .i64 c7] = .tuple #[ra, .int .i64 0] ∧ ∃ z, firstRing (matS S) = some z ∧ Sl (Ma ++ (Mb ++ T)) 1 ra (nodes z)) := by
      refine hRO.imp id (fun ⟨k1, k2, z, k3, k4⟩ => ⟨k1, k2, z, k3, k4.mono fun q hq => List.mem_append_right _ (List.mem_append_right _ hq)⟩)
    generalize Ma ++ (Mb ++ T) = T at hH9 hS hNO hRO hSa hSb
    obtain ⟨ws1, hV1, hwl1, hrow1⟩ := hS.at
    clear hV0 hwl0 hrow0 ho1 ho2 ho3 hxl hl hb hwl hwb hvl hvb
    repeat' (first | refine zP ?_ | refine zA ?_ | (refine zM ?_; intro _ _) | refine zX ?_ | (refine zC ?_; intro _ _ _ _) | (refine zS ?_; intro _ _) | (apply Ws <;> intro hg))
    refine WR.call (by first | exact gN | exact gS rfl) rfl rfl (Agrees_fs hH9 hS hlenS g hSa hSb (by omega) (by omega)) ?_
    rintro _ H10 ⟨n10, cA, hn10, hH10, hAO, rfl⟩
    clear hH9
    repeat' (first | refine zP ?_ | refine zA ?_ | (refine zM ?_; intro _ _) | refine zX ?_ | (refine zC ?_; intro _ _ _ _) | (refine zS ?_; intro _ _) | (apply Ws <;> intro hg))
    refine WR.call (by first | exact gN | exact gS rfl) rfl rfl (numbered_fs hH10 hok hS hSa hSb (by omega) (by omega)) ?_
    rintro _ H11 ⟨n11, bb, hn11, hH11, hbb, rfl⟩
    clear hH10
    have hcase : (NumP (matS S) (IL W) (IL V) ∧ cA = 0 ∧ bb = true) ∨ (¬ NumP (matS S) (IL W) (IL V) ∧ cA = 14 ∧ bb = false) := by
      rcases hAO with ⟨q1a, _⟩ | ⟨_, ⟨q2a, _⟩ | ⟨_, ⟨q3a, _⟩ | ⟨_, ⟨q4a, rfl⟩ | ⟨q4a, rfl⟩⟩⟩⟩
      · exact absurd h0 q1a
      · exact absurd ⟨hWl, hVl⟩ q2a
      · exact absurd ⟨hWb, hVb⟩ q3a
      · refine .inr ⟨q4a, rfl, ?_⟩
        cases bb with
        | false => rfl
        | true => exact absurd (hbb.1 rfl).2 q4a
      · exact .inl ⟨q4a, rfl, hbb.2 ⟨hrg, q4a⟩⟩
    refine WR.op (by first | exact gN | exact gS rfl) rfl (OpV.neB (nq4 _ _) rfl rfl) ?_
    rw [show (decide (cA = 0) != bb) = false by rcases hcase with ⟨_, rfl, rfl⟩ | ⟨_, rfl, rfl⟩ <;> rfl]
    have hc014 : cA = 0 ∨ cA = 14 := hcase.imp (fun h => h.2.1) fun h => h.2.1
    have hfin : ∀ {H' : Heap}, FS C 16 [] H' (fun e H'' => e = .bool true ∧ H'' = H') := fun {H'} => FS.works ⟨rfl, rfl⟩
    have key : ∀ {p : Prop}, p → p := fun h => h
    clear key
    by_cases hc0 : cA = 0
    case' pos => subst hc0
    case' neg => obtain rfl : cA = 14 := hc014.resolve_left hc0
    all_goals
      repeat' (first | refine zP ?_ | refine zA ?_ | (refine zM ?_; intro _ _) | refine zX ?_ | (refine zC ?_; intro _ _ _ _) | (refine zS ?_; intro _ _) | refine zO ?_ | (apply Ws <;> intro hg))
      cases htb : tasteB (matS S) with
      | true =>
        rw [htb] at hNO hRO
        rcases hNO with ⟨_, hce, W2, V2, hr2, hn2, hS2a, hS2b⟩ | ⟨hf, _⟩
        · rcases hRO with ⟨_, hra0, hcr⟩ | ⟨hf, _⟩
          · obtain rfl : c6 = 0 := by simpa using hce
            obtain rfl : c7 = 13 := by simpa using hcr
            subst hra0
            have hW2l : W2.length = S.length := hr2.1
            have hV2l : V2.length = S.length := hr2.2.1
            repeat' (first | refine zP ?_ | refine zA ?_ | (refine zM ?_; intro _ _) | refine zX ?_ | (refine zC ?_; intro _ _ _ _) | (refine zS ?_; intro _ _) | refine zO ?_ | (apply Ws <;> intro hg))
            refine WR.call (by first | exact gN | exact gS rfl) rfl rfl (numbered_fs hH11 hok hS hS2a hS2b (by omega) (by omega)) ?_
            rintro _ H12 ⟨n12, b2, hn12, hH12, hb2, rfl⟩
            obtain rfl : b2 = true := hb2.2 ⟨hr2, hn2⟩
            clear hH11
            repeat' (first | refine zP ?_ | refine zA ?_ | (refine zM ?_; intro _ _) | refine zX ?_ | (refine zC ?_; intro _ _ _ _) | (refine zS ?_; intro _ _) | refine zO ?_ | (apply Ws <;> intro hg))
            refine WR.call (by first | exact gN | exact gS rfl) rfl rfl (Agrees_fs hH12 hS hlenS g hS2a hS2b (by omega) (by omega)) ?_
            rintro _ H13 ⟨n13, cB, hn13, hH13, hBO, rfl⟩
            obtain ⟨⟨_, _⟩, hw2, hv2⟩ := rng_of.1 hr2
            obtain rfl : cB = 0 := hBO.unique (.inr ⟨h0, .inr ⟨⟨hW2l, hV2l⟩, .inr ⟨⟨hw2, hv2⟩, .inr ⟨hn2, rfl⟩⟩⟩⟩)
            clear hH12
            repeat' (first | refine zP ?_ | refine zA ?_ | (refine zM ?_; intro _ _) | refine zX ?_ | (refine zC ?_; intro _ _ _ _) | (refine zS ?_; intro _ _) | refine zO ?_ | (apply Ws <;> intro hg))
            refine WR.call (by first | exact gN | exact gS rfl) rfl rfl hfin ?_
            rintro _ _ ⟨rfl, rfl⟩
            repeat' (first | refine zP ?_ | refine zA ?_ | (refine zM ?_; intro _ _) | refine zX ?_ | (refine zC ?_; intro _ _ _ _) | (refine zS ?_; intro _ _) | refine zO ?_ | (apply Ws <;> intro hg))
            exact Ends.ret1 rfl rfl
          · cases hf
        · cases hf
      | false =>
        rw [htb] at hNO hRO
        rcases hNO with ⟨hf, _⟩ | ⟨_, rfl, rfl, hce⟩
        · cases hf
        · rcases hRO with ⟨hf, _⟩ | ⟨_, hcr, z, hz, hSz⟩
          · cases hf
          · obtain rfl : c6 = 13 := by simpa using hce
            obtain rfl : c7 = 0 := by simpa using hcr
            obtain ⟨hz1, hz2, hz3, hz4⟩ := ring_facts hz
            repeat' (first | refine zP ?_ | refine zA ?_ | (refine zM ?_; intro _ _) | refine zX ?_ | (refine zC ?_; intro _ _ _ _) | (refine zS ?_; intro _ _) | refine zO ?_ | (apply Ws <;> intro hg))
            refine WC.loopX [(8, v), (11, .slice none 0 0), (12, .slice none 0 0), (13, .int .i64 13), (14, ra), (15, .int .i64 0), (19, _), (124, ra), (125, .int .i64 (z.length : Int))] (fun k : Nat => [(126, .int .i64 (k : Int))]) [] (fun k H' => H' = H11 ∧ k ≤ z.length) (fun k => z.length - k) 0 (by repeat' (first | exact .nil | refine .cons rfl ?_)) rfl ⟨rfl, Nat.zero_le _⟩ ?_
            rintro k H12 ⟨rfl, hk2⟩
            dsimp only [List.cons_append, List.nil_append]
            repeat' (first | refine zP ?_ | refine zA ?_ | (refine zM ?_; intro _ _) | refine zX ?_ | (refine zC ?_; intro _ _ _ _) | (refine zS ?_; intro _ _) | (apply Ws <;> intro hg))
            refine WC.condP rfl (fun hltz => ?_) (fun hltz => ?_)
            · have hkz : k < z.length := by omega
              have hzk := hz3 _ (getD_mem (a := 0) hkz)
              repeat' (first | refine zP ?_ | refine zA ?_ | (refine zM ?_; intro _ _) | refine zX ?_ | (refine zC ?_; intro _ _ _ _) | (refine zS ?_; intro _ _) | refine zO ?_ | (apply Ws <;> intro hg))
              refine WR.op (by first | exact gN | exact gS rfl) rfl (OpV.lenK pairV_len (by decide) rfl hV1) ?_
              rw [hwl1]
              repeat' (first | refine zP ?_ | refine zA ?_ | (refine zM ?_; intro _ _) | refine zX ?_ | (refine zC ?_; intro _ _ _ _) | (refine zS ?_; intro _ _) | refine zO ?_ | (apply Ws <;> intro hg))
              exact Ends.loop (k + 1) (by omega) (by repeat' (first | exact .nil | refine .cons rfl ?_)) rfl ⟨rfl, hkz⟩
            · repeat' (first | refine zP ?_ | refine zA ?_ | (refine zM ?_; intro _ _) | refine zX ?_ | (refine zC ?_; intro _ _ _ _) | (refine zS ?_; intro _ _) | refine zO ?_ | (apply Ws <;> intro hg))
              refine WR.call (by first | exact gN | exact gS rfl) rfl rfl (closes_fs hH11 hok hS hSz (by omega) hz3) ?_
              rintro _ H13 ⟨n13, b3, hn13, hH13, hb3, rfl⟩
              obtain rfl : b3 = true := hb3.2 hz4
              have hnn : ¬ NumP (matS S) (IL W) (IL V) := fun h => by have := num_taste hrg h; rw [htb] at this; cases this
              rcases hcase with ⟨hnp, _⟩ | ⟨_, hc14, _⟩
              · exact absurd hnp hnn
              · first
                | (exact absurd hc14 (by decide))
                | (repeat' (first | refine zP ?_ | refine zA ?_ | (refine zM ?_; intro _ _) | refine zX ?_ | (refine zC ?_; intro _ _ _ _) | (refine zS ?_; intro _ _) | refine zO ?_ | (apply Ws <;> intro hg))
                   refine WR.call (by first | exact gN | exact gS rfl) rfl rfl hfin ?_
                   rintro _ _ ⟨rfl, rfl⟩
                   repeat' (first | refine zP ?_ | refine zA ?_ | (refine zM ?_; intro _ _) | refine zX ?_ | (refine zC ?_; intro _ _ _ _) | (refine zS ?_; intro _ _) | refine zO ?_ | (apply Ws <;> intro hg))
                   exact Ends.ret1 rfl rfl)
end
end Go.Proofs.Yteopjpfhhekkoaa.Tt
