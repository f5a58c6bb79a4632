/- Texts of the law, joined. -/
import Derived.Test.YtmgmkglmjmaipaaDoorJ2
/- Sketches: a map by numbers. -/
namespace Go.Abs
set_option linter.unusedSectionVars false
open Go
section
variable [Globs] {C : CW} {nt : Nat} {L : Env} {D : List Nat} {H H' : Heap} {K : St → Prop} {M M' : HL} {n i d : Nat} {gd : Option (Tmp × Bool)} {lo : List Nat} {l : List POp} {rs : List Rd}
theorem WD.append {e sz : Nat} {s x : Operand} {v y : Value} {cs : List Value} {Mx M0 : HL} {k : Nat} {new : List Value} (hg : gOK L gd) (hd : Nat.blt d nt = true) (hs : ev L s = some v) (hy : ev L x = some y)
    (hO : Own e sz v cs Mx) (hH : hasH M n H) (hM : M'.Sublist M) (hp : M'.Perm (Mx ++ M0)) (hk : srcLen y = some k) (hx : srcCells H sz k y = some new) (hl : new.length = k * sz) (h1 : 1 ≤ k) (hone : new.all one = true) (hs1 : 1 ≤ sz) (hs2 : sz ≤ 1000)
    (hsm : cs.length + new.length ≤ 100000) (kk : ∀ v' Mx' n' H', OwnR e sz v' (cs ++ new) Mx' → hasH (Mx' ++ M0) n' H' → n ≤ n' → stands H' lo rs = true ∧ WD C nt l rs ((d, v') :: L) D H' K) :
    WD C nt (⟨i, some d, .append e sz s x, gd, lo⟩ :: l) rs L D H K := by
  obtain ⟨v', Mx', n', H', q1, q2, q3, q4⟩ := append_ownR (P := C.c.P) hO ((hH.sub hM).perm hp) hk hx hl h1 hone hs1 hs2 hsm
  obtain ⟨k1, k2⟩ := kk v' Mx' n' H' q2 q3 q4
  refine WD.op hg hd (H' := H') (v := v') (fun t ht => ?_) rfl k1 k2
  simp only [opA, ev_ok ht hs, ev_ok ht hy, q1]
/-- One element more, what was read before may be read after. -/
theorem WD.append1F {j d2 : Nat} {e : Nat} {z : List Value} {s x : Operand} {lo2 : List Nat} {v y : Value} {cs : List Value} {new : Value} (F Mx T : HL) (hd : Nat.blt d nt = true) (hd2 : Nat.blt d2 nt = true)
    (hx : ev L x = some y) (hs : ev ((d, .slice (some ⟨n, 0, some 0⟩) 1 (2 * 1 + 1)) :: L) s = some v) (hO : Own e 1 v cs Mx) (hH : hasH (F ++ (Mx ++ T)) n H)
    (hc : Instr.fill (fun j => some (j * 1, 1)) z.toArray [(0, y)] = some [new].toArray) (hone : one new = true) (hsm : cs.length + 1 ≤ 100000)
    (hst : ∀ H', hasH ((n, .row e 0 0 [new]) :: (F ++ (Mx ++ T))) (n + 1) H' → stands H' lo rs = true)
    (kk : ∀ v' Mx' n' H', OwnR e 1 v' (cs ++ [new]) Mx' → hasH (F ++ (Mx' ++ T)) n' H' → n ≤ n' → stands H' lo2 rs = true ∧ WD C nt l rs ((d2, v') :: (d, .slice (some ⟨n, 0, some 0⟩) 1 (2 * 1 + 1)) :: L) D H' K) :
    WD C nt (⟨i, some d, .bldS e 1 z 1 [(0, x)], none, lo⟩ :: ⟨j, some d2, .append e 1 s (.tmp d), none, lo2⟩ :: l) rs L D H K := by
  refine WD.bldS True.intro hd hH (vs := [(0, y)]) (by simp only [evp, hx]) hc (by simp [hone]) hst fun H1 hH1 => ?_
  have hx2 : srcCells H1 1 1 (.slice (some ⟨n, 0, some 0⟩) 1 (2 * 1 + 1)) = some [new] := by
    have := hH1.readN (b := n) (u := 0) (lo := 0) (o := 0) (k := 1 * 1) (ch := .row e 0 0 [new]) (cs := [new]) (by simp) (.row _ _ _ _) (Nat.le_refl _) (by simp)
    simpa [srcCells] using this
  have hy : ev ((d, .slice (some ⟨n, 0, some 0⟩) 1 (2 * 1 + 1)) :: L) (.tmp d) = some (.slice (some ⟨n, 0, some 0⟩) 1 (2 * 1 + 1)) := by simp [ev, Env.get]
  refine WD.append True.intro hd2 hs hy hO hH1 (M' := F ++ (Mx ++ T)) (List.sublist_cons_self _ _) (M0 := F ++ T) (List.perm_append_comm_assoc F Mx T) rfl hx2 (by simp) (Nat.le_refl _) (by simp [hone]) (Nat.le_refl _) (by omega) (by simpa using hsm) fun v' Mx' n' H' q1 q2 q3 => ?_
  exact kk v' Mx' n' H' q1 (q2.perm (List.perm_append_comm_assoc Mx' F T)) (by omega)
end
end Go.Abs
namespace Go.Proofs.YtmgmkglmjmaipaaDoor.Ct
open Go Go.Abs Go.Mth
set_option linter.unusedVariables false
set_option linter.unusedSimpArgs false
theorem u8k : C.c.P.underlying 5 = some (.int .u8) := by kernel_rfl
theorem i64k : C.c.P.underlying 3 = some (.int .i64) := by kernel_rfl
/-- A sketch's cells. -/
def skV (x : Nat) (ord : List Nat) (b : Nat) : List Value := numsK .u8 (x :: ord) ++ [.int .u16 (b : Int)]
theorem sk_one (x : Nat) (ord : List Nat) (b : Nat) : (skV x ord b).all one = true := by
  rw [skV, List.all_append]
  have : (numsK .u8 (x :: ord)).all one = true := by rw [List.all_eq_true]; intro q hq; obtain ⟨z, _, rfl⟩ := List.mem_map.1 hq; rfl
  rw [this]; rfl
theorem len_flat {P : List (List Nat)} (h : ∀ l ∈ P, l ≠ []) : P.length ≤ P.flatten.length := by
  induction P with
  | nil => exact Nat.zero_le _
  | cons l P ih =>
    have := ih fun m hm => h m (by simp [hm])
    have h1 := List.length_pos_iff.2 (h l (by simp))
    rw [List.flatten_cons, List.length_append, List.length_cons]; omega
structure KV where
  k : Nat
  v : Value
  Mx : HL
  n : Nat
structure MS where
  k : Nat
  cp : Nat
  R : Nat
  ys : List Int
  pv : Value
  ws : List Value
  Mo : HL
  Mi : HL
  n : Nat
  P : List (List Nat)
  left : List Nat
structure MJ where
  pv : Value
  wi : List Value
  u : Value
  Mo : HL
  Mr : HL
  Mi : HL
  n : Nat
  Pi : List (List Nat)
  r : List Nat
attribute [local irreducible] gOK WS WC WR WD Ends FS YS OpV seqK blockK loopK midK retK rdK asgK rangeEnd sat Cell
section
variable {M : HL} {n0 : Nat} {H : Heap} {v w : Value}
theorem Delete_fs {b u o len cp R i j : Nat} {ys : List Int} (hH : hasH ((b, .row 3 u o (ints ys)) :: M) n0 H) (hc : capR cp len R) (hly : len ≤ ys.length) (hij : i < j) (hjl : j ≤ len) (hyl : ys.length ≤ 100000) :
    FS C 87 [.slice (some ⟨b, o, some u⟩) len cp, .int .i64 (i : Int), .int .i64 (j : Int)] H (fun e H' => ∃ zs, e = .slice (some ⟨b, o, some u⟩) (len - (j - i)) (roomCode 1 R) ∧ hasH ((b, .row 3 u o (ints zs)) :: M) n0 H' ∧
      zs.length = ys.length ∧ zs.take (len - (j - i)) = ys.take i ++ (ys.take len).drop j) := by
  have hR := hc.le
  refine FS.intro (pf := pf87) rfl rfl rfl ?_
  repeat' (first | refine zP ?_ | refine zA ?_ | (refine zM ?_; intro _ _) | refine zX ?_ | (refine zC ?_; intro _ _ _ _) | (refine zS ?_; intro _ _) | (apply Ws <;> intro hg))
  refine WR.cutMax (by first | exact gN | exact gS rfl) rfl rfl hc rfl rfl rfl (Nat.le_of_lt hij) hjl (Nat.le_refl _) (by omega) fun v13 => ?_
  repeat' (first | refine zP ?_ | refine zA ?_ | (refine zM ?_; intro _ _) | refine zX ?_ | (refine zC ?_; intro _ _ _ _) | (refine zS ?_; intro _ _) | refine zO ?_ | (apply Ws <;> intro hg))
  refine WR.op (by first | exact gN | exact gS rfl) rfl (OpV.cutPre rfl hc rfl (by omega) (by omega)) ?_
  repeat' (first | refine zP ?_ | refine zA ?_ | (refine zM ?_; intro _ _) | refine zX ?_ | (refine zC ?_; intro _ _ _ _) | (refine zS ?_; intro _ _) | (apply Ws <;> intro hg))
  refine WR.cutSuf (by first | exact gN | exact gS rfl) rfl rfl hc rfl hjl fun cp' => ?_
  refine WR.appendR (M' := (b, .row 3 u o (ints (ys.take i ++ (ys.drop j).take (len - j) ++ ys.drop (i + (len - j))))) :: M) (by first | exact gN | exact gS rfl) rfl rfl rfl hH .here (by omega) (by omega) (by omega) fun H1 hH1 => ?_
  have hl2 : i + (len - j) = len - (j - i) := by omega
  rw [hl2] at hH1 ⊢
  obtain ⟨zs, hzs⟩ : ∃ zs, ys.take i ++ (ys.drop j).take (len - j) ++ ys.drop (len - (j - i)) = zs := ⟨_, rfl⟩
  rw [hzs] at hH1
  have hzl : zs.length = ys.length := by rw [← hzs]; simp; omega
  have hzt : zs.take (len - (j - i)) = ys.take i ++ (ys.take len).drop j := by
    rw [← hzs, List.take_append_of_le_length (by simp; omega), List.take_of_length_le (by simp; omega), List.drop_take]
  repeat' (first | refine zP ?_ | refine zA ?_ | (refine zM ?_; intro _ _) | refine zX ?_ | (refine zC ?_; intro _ _ _ _) | (refine zS ?_; intro _ _) | (apply Ws <;> intro hg))
  refine WR.cutOver (by first | exact gN | exact gS rfl) rfl rfl (by omega) rfl rfl (by omega) (by omega) fun cp2 => ?_
  refine WR.clrI (M' := (b, .row 3 u o (ints (zs.take (len - (j - i)) ++ List.replicate (len - (len - (j - i))) 0 ++ zs.drop (len - (j - i) + (len - (len - (j - i))))))) :: M) (by first | exact gN | exact gS rfl) rfl hH1 .here (by omega) (by omega) fun H2 hH2 => ?_
  repeat' (first | refine zP ?_ | refine zA ?_ | (refine zM ?_; intro _ _) | refine zX ?_ | (refine zC ?_; intro _ _ _ _) | (refine zS ?_; intro _ _) | (apply Ws <;> intro hg))
  refine Ends.ret1 rfl ⟨_, rfl, hH2, by simp; omega, ?_⟩
  rw [List.append_assoc, List.take_append_of_le_length (by simp; omega), List.take_of_length_le (by simp; omega), hzt]
set_option maxHeartbeats 4000000 in
theorem made_fs (hH : hasH M n0 H) {x b : Nat} {ord : List Nat} (hx : x ≤ 255) (ho : ord.length = 16) (hob : ∀ y ∈ ord, y ≤ 255) (hb : b < 65536) {most : Nat} (hm : most ≤ 8) :
    FS C 43 [.agg (skV x ord b).toArray, .int .i64 (most : Int)] H (fun e H' => ∃ Q u, OKM Q ∧ sizeL Q ≤ 2 * most ∧ e = .agg [u].toArray ∧ ListsR M n0 Q u H') := by
  have hone := sk_one x ord b
  have hsl : (skV x ord b).length = 18 := by simp [skV, ho]
  refine FS.intro (pf := pf43) rfl rfl rfl ?_
  repeat' (first | refine zP ?_ | refine zA ?_ | (refine zM ?_; intro _ _) | refine zX ?_ | (refine zC ?_; intro _ _ _ _) | (refine zS ?_; intro _ _))
  rename_i H1 hH1 H2 hH2
  refine WR.op (by first | exact gN | exact gS rfl) rfl (OpV.conv u8k i64k rfl (c := (x : Int)) (IntWalk.i64_in _ (by omega))) ?_
  have hmod := Nat.mod_lt x (show 0 < most + 1 by omega)
  repeat' (first | refine zP ?_ | refine zA ?_ | (refine zM ?_; intro _ _) | refine zX ?_ | (refine zC ?_; intro _ _ _ _) | (refine zS ?_; intro _ _) | (apply Ws <;> intro hg))
  rw [show (x : Int) % ((most : Int) + 1) = ((x % (most + 1) : Nat) : Int) by simp]
  obtain ⟨r, hr⟩ : ∃ r, x % (most + 1) = r := ⟨_, rfl⟩
  rw [hr] at hmod ⊢
  repeat' (first | refine zP ?_ | refine zA ?_ | (refine zM ?_; intro _ _) | refine zX ?_ | (refine zC ?_; intro _ _ _ _) | (refine zS ?_; intro _ _) | (apply Ws <;> intro hg))
  rw [show (2 : Int) * (r : Int) = ((2 * r : Nat) : Int) by omega]
  obtain ⟨N, hN⟩ : ∃ N, 2 * r = N := ⟨_, rfl⟩
  rw [hN]
  clear hH hH1
  repeat' (first | refine zP ?_ | refine zA ?_ | (refine zM ?_; intro _ _) | refine zX ?_ | (refine zC ?_; intro _ _ _ _) | (refine zS ?_; intro _ _) | (apply Ws <;> intro hg))
  refine WC.loopX [(2, _), (4, _), (5, _), (19, _)] (fun a : KV => [(6, a.v), (20, .int .i64 (a.k : Int))]) []
    (fun a H' => a.k ≤ N ∧ n0 + 2 ≤ a.n ∧ Own 3 1 a.v (nodes (List.range a.k)) a.Mx ∧ (a.k ≠ 0 → OwnR 3 1 a.v (nodes (List.range a.k)) a.Mx) ∧ hasH ((n0 + 1, .row 24 0 0 [.slice none 0 0]) :: (n0, .row 57 0 0 (skV x ord b)) :: (a.Mx ++ M)) a.n H') (fun a => N - a.k) ⟨0, .slice none 0 0, [], n0 + 2⟩ (by repeat' (first | exact .nil | refine .cons rfl ?_)) rfl
    ⟨Nat.zero_le _, Nat.le_refl _, .nil, fun h => absurd rfl h, hH2⟩ ?_
  clear hH2
  rintro ⟨k, vl, Mx, n1⟩ H3 ⟨hk, hn1, hO, hO2, hH3⟩
  simp only at hk hn1 hO hO2 hH3
  dsimp only [List.cons_append, List.nil_append]
  repeat' (first | refine zP ?_ | refine zA ?_ | (refine zM ?_; intro _ _) | refine zX ?_ | (refine zC ?_; intro _ _ _ _) | (refine zS ?_; intro _ _) | (apply Ws <;> intro hg))
  refine WC.condP rfl (fun hlt => ?_) (fun hlt => ?_)
  · have hk' : k < N := by omega
    repeat' (first | refine zP ?_ | refine zA ?_ | (refine zM ?_; intro _ _) | refine zX ?_ | (refine zC ?_; intro _ _ _ _) | (refine zS ?_; intro _ _) | (apply Ws <;> intro hg))
    refine WR.append1RF [(n0 + 1, .row 24 0 0 [.slice none 0 0]), (n0, .row 57 0 0 (skV x ord b))] Mx M rfl rfl rfl rfl hO hH3 (new := [.int .i64 (k : Int)]) (by rfl) rfl rfl (Nat.le_refl _) (by omega) (by simp; omega) fun v3 M3 n3 H6 hO3 hH6 hn3 => ?_
    repeat' (first | refine zP ?_ | refine zA ?_ | (refine zM ?_; intro _ _) | refine zX ?_ | (refine zC ?_; intro _ _ _ _) | (refine zS ?_; intro _ _) | (apply Ws <;> intro hg))
    have e1 : nodes (List.range (k + 1)) = nodes (List.range k) ++ [.int .i64 (k : Int)] := by simp [nodes, List.range_succ]
    exact Ends.loop ⟨k + 1, v3, M3, n3⟩ (by simp only; omega) (by repeat' (first | exact .nil | refine .cons rfl ?_)) rfl ⟨hk', by simp only; omega, by simp only; rw [e1]; exact hO3.own, fun _ => by simp only; rw [e1]; exact hO3, hH6⟩
  · have hkN : k = N := by omega
    clear hlt hk
    subst hkN
    repeat' (first | refine zP ?_ | refine zA ?_ | (refine zM ?_; intro _ _) | refine zX ?_ | (refine zC ?_; intro _ _ _ _) | (refine zS ?_; intro _ _) | (apply Ws <;> intro hg))
    rename_i H4 hH4
    clear hH3
    by_cases hN0 : k = 0
    · subst hN0
      refine WC.loopX [(4, .pointer (some ⟨n0 + 1, 0, some 0⟩)), (8, .pointer (some ⟨n1, 0, some 0⟩)), (28, .int .i64 0)] (fun _ : Unit => [(29, .int .i64 0)]) [] (fun _ H' => H' = H4) (fun _ => 0) () (by repeat' (first | exact .nil | refine .cons rfl ?_)) rfl rfl ?_
      rintro _ _ rfl
      dsimp only [List.cons_append, List.nil_append]
      repeat' (first | refine zP ?_ | refine zA ?_ | (refine zM ?_; intro _ _) | refine zX ?_ | (refine zC ?_; intro _ _ _ _) | (refine zS ?_; intro _ _) | (apply Ws <;> intro hg))
      · refine WR.storeAll (by first | exact gN | exact gS rfl) hH4 rfl rfl (ls := [Value.slice none 0 0]) (by simp [Value.cells]) rfl (.there .here) rfl rfl fun H5 hH5 => ?_
        repeat' (first | refine zP ?_ | refine zA ?_ | (refine zM ?_; intro _ _) | refine zX ?_ | (refine zC ?_; intro _ _ _ _) | (refine zS ?_; intro _ _) | (apply Ws <;> intro hg))
        refine Ends.retCN rfl (readAll hH5 (.tail _ (.head _)) rfl) ⟨[], .slice none 0 0, ⟨fun l h => (by cases h), List.nodup_nil, fun l h => (by cases h), rfl, by show 0 ≤ 16; omega⟩, by show 0 ≤ _; omega, rfl, [], n1 + 1, by omega, ?_, ?_⟩
        · exact (hH5.tail.tail.tail).sub (List.sublist_append_right Mx M)
        · exact ⟨[], .nil 0, rfl, fun i h => absurd h (Nat.not_lt_zero _)⟩
    have hOR := hO2 hN0
    clear hO hO2
    cases hOR with
    | mk hlen =>
    rename_i bl ul ol len
    have hle : k = len := by have := hlen; simp at this; omega
    subst hle
    generalize hNk : k = N at *
    clear hNk
    have hrange : nodes (List.range N) = ints (castL (List.range N)) := by rw [nodesI]; rfl
    rw [hrange] at hH4
    have hN16 : N ≤ 16 := by omega
    have hclr : (castL (List.range N)).length = N := by rw [castL_len, List.length_range]
    refine WC.loopX [(2, .pointer (some ⟨n0, 0, some 0⟩)), (4, .pointer (some ⟨n0 + 1, 0, some 0⟩)), (8, .pointer (some ⟨n1, 0, some 0⟩)), (28, .int .i64 (N : Int))] (fun a : MS => [(6, .slice (some ⟨bl, ol, some ul⟩) (N - a.k) a.cp), (29, .int .i64 (a.k : Int))]) []
      (fun a H' => a.k ≤ N ∧ n1 + 1 ≤ a.n ∧ capR a.cp (N - a.k) a.R ∧ a.ys.length = N ∧ a.ys.take (N - a.k) = castL a.left ∧ (a.left ++ a.P.flatten).Perm (List.range N) ∧ (∀ l ∈ a.P, l ≠ []) ∧
        ((a.k = 0 ∧ a.pv = .slice none 0 0 ∧ a.P = [] ∧ a.ws = [] ∧ a.Mo = [] ∧ a.Mi = []) ∨ ∃ wi u Mr Mi' Pi r, a.ws = wi ++ [u] ∧ a.P = Pi ++ [r] ∧ a.Mi = Mr ++ Mi' ∧ OwnR 45 1 a.pv a.ws a.Mo ∧ Own 3 1 u (nodes r) Mr ∧ RowsN (Mi' ++ []) wi Pi) ∧
        hasH ((n1, .row 24 0 0 [a.pv]) :: (bl, .row 3 ul ol (ints a.ys)) :: (n0 + 1, .row 24 0 0 [.slice none 0 0]) :: (n0, .row 57 0 0 (skV x ord b)) :: (a.Mo ++ (a.Mi ++ M))) a.n H') (fun a => N - a.k) ⟨0, 2 * 1, N, castL (List.range N), .slice none 0 0, [], [], [], n1 + 1, [], List.range N⟩ (by repeat' (first | exact .nil | refine .cons rfl ?_)) rfl
      ⟨Nat.zero_le _, Nat.le_refl _, .inl ⟨rfl, rfl⟩, hclr, by simp only; rw [Nat.sub_zero, List.take_of_length_le (by omega)], by simp, fun l h => (by cases h), .inl ⟨rfl, rfl, rfl, rfl, rfl, rfl⟩, ?_⟩ ?_
    · refine hH4.perm ?_
      refine List.Perm.cons _ ?_
      exact List.perm_middle (l₁ := [_, _])
    clear hH4 hlen
    rintro ⟨k, cp, R, ys, pv, ws, Mo, Mi, n2, P, left⟩ H5 ⟨hk, hn2, hcR, hyl, hyt, hperm, hPne, hrows, hH5⟩
    simp only at hk hn2 hcR hyl hyt hperm hPne hrows hH5
    have hll : left.length = N - k := by have := congrArg List.length hyt; rw [castL_len, List.length_take, hyl] at this; omega
    dsimp only [List.cons_append, List.nil_append]
    repeat' (first | refine zP ?_ | refine zA ?_ | (refine zM ?_; intro _ _) | refine zX ?_ | (refine zC ?_; intro _ _ _ _) | (refine zS ?_; intro _ _) | (apply Ws <;> intro hg))
    refine WC.condP rfl (fun hlt => ?_) (fun hlt => ?_)
    · have hk' : k < N := by omega
      have hyk : ord.getD k 0 ≤ 255 := hob _ (getD_mem (by omega))
      have hcell : (skV x ord b)[1 + k]? = some (.int .u8 ((ord.getD k 0 : Nat) : Int)) := by
        rw [Nat.add_comm]
        simp only [skV, numsK, List.map_cons, List.cons_append, List.getElem?_cons_succ]
        rw [List.getElem?_append_left (by simp; omega)]
        exact nodes_get (by omega)
      repeat' (first | refine zP ?_ | refine zA ?_ | (refine zM ?_; intro _ _) | refine zX ?_ | (refine zC ?_; intro _ _ _ _) | (refine zS ?_; intro _ _) | (apply Ws <;> intro hg))
      refine WR.op (by first | exact gN | exact gS rfl) rfl (OpV.load1 rfl hH5 (.tail _ (.tail _ (.tail _ (.head _)))) (.row _ _ _ _) (Nat.zero_le _) hcell) ?_
      refine WR.op (by first | exact gN | exact gS rfl) rfl (OpV.conv u8k i64k rfl (c := ((ord.getD k 0 : Nat) : Int)) (IntWalk.i64_in _ (by omega))) ?_
      repeat' (first | refine zP ?_ | refine zR ?_ | (refine zM ?_; intro _ _) | refine zX ?_ | (refine zC ?_; intro _ _ _ _) | (refine zS ?_; intro _ _))
      rw [show ((ord.getD k 0 : Nat) : Int) % ((N - k : Nat) : Int) = ((ord.getD k 0 % (N - k) : Nat) : Int) by simp]
      obtain ⟨i, hi⟩ : ∃ i, ord.getD k 0 % (N - k) = i := ⟨_, rfl⟩
      have hil : i < N - k := by rw [← hi]; exact Nat.mod_lt _ (by omega)
      rw [hi]
      repeat' (first | refine zP ?_ | refine zR ?_ | (refine zM ?_; intro _ _) | refine zX ?_ | (refine zC ?_; intro _ _ _ _) | (refine zS ?_; intro _ _))
      refine WR.nil ?_
      refine Ends.seq ?_
      refine WC.seq ?_
      have hOwn : Own 45 1 pv ws Mo := by
        rcases hrows with ⟨_, rfl, _, rfl, rfl, _⟩ | ⟨wi, u, Mr, Mi', Pi, r, rfl, rfl, rfl, h1, _, _⟩
        · exact .nil
        · exact h1.own
      have hRN : RowsN (Mi ++ []) ws P := by
        rcases hrows with ⟨_, _, rfl, rfl, _, _⟩ | ⟨wi, u, Mr, Mi', Pi, r, rfl, rfl, rfl, _, h2, h3⟩
        · exact ⟨rfl, fun i h => absurd h (Nat.not_lt_zero _)⟩
        · exact rowsN_snoc h3 (h2.sl [])
      have hPl : P.length ≤ 16 := by
        have h1 := len_flat hPne
        have h2 := hperm.length_eq
        rw [List.length_append, List.length_range] at h2
        omega
      have hwsl := hRN.1
      refine WC.joinX [(2, .pointer (some ⟨n0, 0, some 0⟩)), (4, .pointer (some ⟨n0 + 1, 0, some 0⟩)), (8, .pointer (some ⟨n1, 0, some 0⟩)), (28, .int .i64 (N : Int)), (6, .slice (some ⟨bl, ol, some ul⟩) (N - k) cp), (29, .int .i64 (k : Int)), (10, .int .i64 (i : Int)), (9, .int .i64 (k : Int))] (by repeat' (first | exact .nil | refine .cons rfl ?_)) (fun _ : MJ => [])
        (fun j H' => n1 + 1 ≤ j.n ∧ OwnR 45 1 j.pv (j.wi ++ [j.u]) j.Mo ∧ Own 3 1 j.u (nodes j.r) j.Mr ∧ RowsN (j.Mi ++ []) j.wi j.Pi ∧ (∀ l ∈ j.Pi, l ≠ []) ∧ (left ++ (j.Pi ++ [j.r]).flatten).Perm (List.range N) ∧ j.wi.length ≤ 16 ∧
          hasH ((n1, .row 24 0 0 [j.pv]) :: (bl, .row 3 ul ol (ints ys)) :: (n0 + 1, .row 24 0 0 [.slice none 0 0]) :: (n0, .row 57 0 0 (skV x ord b)) :: (j.Mo ++ (j.Mr ++ (j.Mi ++ M)))) j.n H') ?_ ?_
      · repeat' (first | refine zP ?_ | refine zA ?_ | (refine zM ?_; intro _ _) | refine zX ?_ | (refine zC ?_; intro _ _ _ _) | (refine zS ?_; intro _ _) | (apply Ws <;> intro hg))
        · refine WR.append1RF [(n1, .row 24 0 0 [pv]), (bl, .row 3 ul ol (ints ys)), (n0 + 1, .row 24 0 0 [.slice none 0 0]), (n0, .row 57 0 0 (skV x ord b))] Mo (Mi ++ M) rfl rfl rfl rfl hOwn hH5 (new := [.slice none 0 0]) (by rfl) rfl rfl (Nat.le_refl _) (by omega) (by simp; omega) fun v3 M3 n3 H6 hO3 hH6 hn3 => ?_
          replace hH6 : hasH ((n1, .row 24 0 0 [pv]) :: (bl, .row 3 ul ol (ints ys)) :: (n0 + 1, .row 24 0 0 [.slice none 0 0]) :: (n0, .row 57 0 0 (skV x ord b)) :: (M3 ++ (Mi ++ M))) n3 H6 := hH6
          have hv3 := (hO3.own.sl M).one_
          repeat' (first | refine zP ?_ | refine zA ?_ | (refine zM ?_; intro _ _) | refine zX ?_ | (refine zC ?_; intro _ _ _ _) | (refine zS ?_; intro _ _) | (apply Ws <;> intro hg))
          rename_i H7 hH7
          exact Ends.midX ⟨v3, ws, .slice none 0 0, M3, [], Mi, n3, P, []⟩ (by repeat' (first | exact .nil | refine .cons rfl ?_)) ⟨by simp only; omega, hO3, .nil, hRN, hPne, by simpa using hperm, by simp only; omega, hH7⟩
        · have hc17 : (skV x ord b)[17]? = some (.int .u16 (b : Int)) := by
            simp only [skV, numsK]
            rw [List.getElem?_append_right (by simp [ho])]
            simp [ho]
          refine WR.op (by first | exact gN | exact gS rfl) rfl (OpV.load1 rfl hH5 (.tail _ (.tail _ (.tail _ (.head _)))) (.row _ _ _ _) (Nat.zero_le _) hc17) ?_
          repeat' (first | refine zP ?_ | refine zR ?_ | (refine zM ?_; intro _ _) | refine zX ?_ | (refine zC ?_; intro _ _ _ _) | (refine zS ?_; intro _ _))
          refine WR.op (by first | exact gN | exact gS rfl) rfl (OpV.shrN rfl rfl (by show k ≤ 16; omega)) ?_
          refine WR.op (by first | exact gN | exact gS rfl) rfl (OpV.andN (a := b >>> k) (b := 1) rfl rfl (Nat.lt_of_le_of_lt (Nat.shiftRight_le _ _) hb) (by decide)) ?_
          repeat' (first | refine zP ?_ | refine zA ?_ | (refine zM ?_; intro _ _) | refine zX ?_ | (refine zC ?_; intro _ _ _ _) | (refine zS ?_; intro _ _) | (apply Ws <;> intro hg))
          refine WC.condP rfl (fun hbit => ?_) (fun hbit => ?_)
          · repeat' (first | refine zP ?_ | refine zA ?_ | (refine zM ?_; intro _ _) | refine zX ?_ | (refine zC ?_; intro _ _ _ _) | (refine zS ?_; intro _ _) | (apply Ws <;> intro hg))
            refine WR.append1RF [(n1, .row 24 0 0 [pv]), (bl, .row 3 ul ol (ints ys)), (n0 + 1, .row 24 0 0 [.slice none 0 0]), (n0, .row 57 0 0 (skV x ord b))] Mo (Mi ++ M) rfl rfl rfl rfl hOwn hH5 (new := [.slice none 0 0]) (by rfl) rfl rfl (Nat.le_refl _) (by omega) (by simp; omega) fun v3 M3 n3 H6 hO3 hH6 hn3 => ?_
            replace hH6 : hasH ((n1, .row 24 0 0 [pv]) :: (bl, .row 3 ul ol (ints ys)) :: (n0 + 1, .row 24 0 0 [.slice none 0 0]) :: (n0, .row 57 0 0 (skV x ord b)) :: (M3 ++ (Mi ++ M))) n3 H6 := hH6
            have hv3 := (hO3.own.sl M).one_
            repeat' (first | refine zP ?_ | refine zA ?_ | (refine zM ?_; intro _ _) | refine zX ?_ | (refine zC ?_; intro _ _ _ _) | (refine zS ?_; intro _ _) | (apply Ws <;> intro hg))
            rename_i H7 hH7
            exact Ends.midX ⟨v3, ws, .slice none 0 0, M3, [], Mi, n3, P, []⟩ (by repeat' (first | exact .nil | refine .cons rfl ?_)) ⟨by simp only; omega, hO3, .nil, hRN, hPne, by simpa using hperm, by simp only; omega, hH7⟩
          · repeat' (first | refine zP ?_ | refine zA ?_ | (refine zM ?_; intro _ _) | refine zX ?_ | (refine zC ?_; intro _ _ _ _) | (refine zS ?_; intro _ _) | (apply Ws <;> intro hg))
            rcases hrows with ⟨h, _⟩ | ⟨wi, u, Mr, Mi', Pi, r, rfl, rfl, rfl, h1, h2, h3⟩
            · exact absurd (by omega) hg
            · refine Ends.midX ⟨pv, wi, u, Mo, Mr, Mi', n2, Pi, r⟩ (by repeat' (first | exact .nil | refine .cons rfl ?_)) ⟨hn2, h1, h2, h3, fun l hl => hPne l (List.mem_append_left _ hl), hperm, by simp at hwsl hPl ⊢; omega, ?_⟩
              rw [List.append_assoc] at hH5
              exact hH5
      · rintro ⟨pv, wi, u, Mo, Mr, Mi, n3, Pi, r⟩ H6 ⟨hn3, hOp, hOu, hRN2, hPine, hperm2, hwl, hH6⟩
        simp only at hn3 hOp hOu hRN2 hPine hperm2 hwl hH6
        clear hH5 hrows hOwn hRN hPl hwsl hperm
        cases hOp with
        | mk hlen =>
        rename_i bo uo oo len
        have hlw : len = wi.length + 1 := by simp at hlen; omega
        subst hlw
        have hu1 := (hOu.sl M).one_
        have hrow1 : ((wi ++ [u])[oo + wi.length - oo]?) = some u := by rw [show oo + wi.length - oo = wi.length by omega]; simp
        dsimp only [List.cons_append, List.nil_append]
        repeat' (first | refine zP ?_ | refine zA ?_ | (refine zM ?_; intro _ _) | refine zX ?_ | (refine zC ?_; intro _ _ _ _) | (refine zS ?_; intro _ _) | (apply Ws <;> intro hg))
        rw [show ((wi.length + 1 : Nat) : Int) - 1 = (wi.length : Int) by omega]
        refine WC.regionD ?_
        repeat' (first | refine zD ?_ | (refine zE ?_; intro _ _ _ _))
        have hps : same1 (.slice (some ⟨bo, oo, some uo⟩) (wi.length + 1) (2 * 1)) (.slice (some ⟨bo, oo, some uo⟩) (wi.length + 1) (2 * 1)) = true := by simp [same1, same0, sameAddr_refl]
        have hus : same1 u u = true := (hOu.sl M).same
        have hR1 := hcR.le
        have hrl : r.length ≤ 16 := by
          have := hperm2.length_eq
          rw [List.flatten_append, List.length_append, List.length_append, List.length_range] at this
          simp at this; omega
        obtain ⟨x1, hx1⟩ : ∃ x1, left.getD i 0 = x1 := ⟨_, rfl⟩
        have hyx : ys.getD i 0 = (x1 : Int) := by
          have h1 := castL_get (l := left) (k := i) (by omega)
          rw [← hyt, getD_take (by omega)] at h1
          rw [h1, hx1]
        refine WD.load1 (by first | exact gN | exact gS rfl) rfl rfl (hH6.read (.tail _ (.tail _ (.tail _ (.tail _ (.head _))))) (.row _ _ _ _) (Nat.le_add_right _ _) hrow1) ?_
        repeat' (first | refine zD ?_ | (refine zE ?_; intro _ _ _ _))
        refine WD.load1 (v := .int .i64 (ys.getD i 0)) (by first | exact gN | exact gS rfl) rfl rfl (hH6.read (.tail _ (.head _)) (.row _ _ _ _) (Nat.le_add_right _ _) (by rw [show ol + i - ol = i by omega]; exact ints_get (by omega))) ?_
        rw [hyx]
        refine WD.append1F (new := .int .i64 (x1 : Int)) [(n1, .row 24 0 0 [.slice (some ⟨bo, oo, some uo⟩) (wi.length + 1) (2 * 1)]), (bl, .row 3 ul ol (ints ys)), (n0 + 1, .row 24 0 0 [.slice none 0 0]), (n0, .row 57 0 0 (skV x ord b)), (bo, .row 45 uo oo (wi ++ [u]))] Mr (Mi ++ M) rfl rfl rfl rfl hOu hH6 (by rfl) rfl (by simp; omega)
          (fun H7 hH7 => by
            refine stands_cons (.inl rfl) (stands_cons (.inr (holds_at (hH7.read (.tail _ (.tail _ (.tail _ (.tail _ (.tail _ (.head _)))))) (.row _ _ _ _) (Nat.le_add_right _ _) hrow1) hus)) (stands_cons (.inr (holds_at (hH7.read (.tail _ (.head _)) (.row _ _ _ _) (Nat.le_refl _) rfl) hps)) (stands_cons (.inr (holds_at (hH7.read (.tail _ (.head _)) (.row _ _ _ _) (Nat.le_refl _) rfl) hps)) stands_nil'))))
          fun v3 M3 n4 H7 hO3 hH7 hn4 => ⟨by
            refine stands_cons (.inl rfl) (stands_cons (.inl rfl) (stands_cons (.inl rfl) (stands_cons (.inr (holds_at (hH7.read (.head _) (.row _ _ _ _) (Nat.le_refl _) rfl) hps)) stands_nil'))), ?_⟩
        refine WD.toWR rfl ?_
        have hv3 := (hO3.own.sl M).one_
        repeat' (first | refine zP ?_ | refine zA ?_ | (refine zM ?_; intro _ _) | refine zX ?_ | (refine zC ?_; intro _ _ _ _) | (refine zS ?_; intro _ _) | (apply Ws <;> intro hg))
        refine WR.store1 (cs' := wi ++ [v3]) (by first | exact gN | exact gS rfl) hH7 rfl rfl hv3 (.there (.there (.there (.there .here)))) (Nat.le_add_right _ _) (by simp) (by rw [show oo + wi.length - oo = wi.length by omega]; simp) fun H8 hH8 => ?_
        clear hH6 hH7
        repeat' (first | refine zP ?_ | refine zA ?_ | (refine zM ?_; intro _ _) | refine zX ?_ | (refine zC ?_; intro _ _ _ _) | (refine zS ?_; intro _ _) | (apply Ws <;> intro hg))
        rw [show (i : Int) + 1 = ((i + 1 : Nat) : Int) by omega]
        refine WR.call (by first | exact gN | exact gS rfl) rfl rfl (Delete_fs (i := i) (j := i + 1) (hH8.perm (List.Perm.swap _ _ _)) hcR (by omega) (by omega) (by omega) (by omega)) ?_
        rintro _ H9 ⟨zs, rfl, hH9, hzl, hzt⟩
        rw [show i + 1 - i = 1 by omega, show N - k - 1 = N - (k + 1) by omega] at hzt ⊢
        repeat' (first | refine zP ?_ | refine zA ?_ | (refine zM ?_; intro _ _) | refine zX ?_ | (refine zC ?_; intro _ _ _ _) | (refine zS ?_; intro _ _) | (apply Ws <;> intro hg))
        have hzc : zs.take (N - (k + 1)) = castL (left.take i ++ left.drop (i + 1)) := by
          have e1 : ys.take i = castL (left.take i) := by
            have := congrArg (List.take i) hyt
            rw [List.take_take, Nat.min_eq_left (by omega)] at this
            rw [this]; simp [castL, List.map_take]
          rw [hzt, hyt, e1]; simp [castL, List.map_drop]
        have hpl : left.Perm (x1 :: (left.take i ++ left.drop (i + 1))) := by
          have e1 : left = left.take i ++ (left[i]'(by omega) :: left.drop (i + 1)) := by rw [List.getElem_cons_drop (by omega), List.take_append_drop]
          have e2 : left[i]'(by omega) = x1 := by rw [← hx1, getD_eq (by omega)]
          rw [e2] at e1
          exact (show left.Perm (left.take i ++ (x1 :: left.drop (i + 1))) from e1 ▸ List.Perm.refl _).trans List.perm_middle
        refine Ends.loop ⟨k + 1, roomCode 1 R, R, zs, .slice (some ⟨bo, oo, some uo⟩) (wi.length + 1) (2 * 1), wi ++ [v3], [(bo, .row 45 uo oo (wi ++ [v3]))], M3 ++ Mi, n4, Pi ++ [r ++ [x1]], left.take i ++ left.drop (i + 1)⟩ (by simp only; omega) (by repeat' (first | exact .nil | refine .cons rfl ?_)) rfl
          ⟨hk', by simp only; omega, .inr ⟨rfl, by simp only; omega⟩, by simp only; omega, hzc, ?_, fun l hl => ?_, .inr ⟨wi, v3, M3, Mi, Pi, r ++ [x1], rfl, rfl, rfl, .mk (by simp), ?_, hRN2⟩, ?_⟩
        · simp only
          refine List.Perm.trans ?_ hperm2
          refine List.Perm.trans ?_ (hpl.append_right _).symm
          rw [List.flatten_append, List.flatten_append]
          exact List.perm_iff_count.2 fun z => by simp only [List.count_append, List.count_cons, List.flatten_cons, List.flatten_nil, List.count_nil]; omega
        · simp only [List.mem_append, List.mem_singleton] at hl
          rcases hl with hl | rfl
          · exact hPine l hl
          · simp
        · rw [show nodes (r ++ [x1]) = nodes r ++ [.int .i64 (x1 : Int)] by simp [nodes]]
          exact hO3.own
        · simp only
          rw [List.append_assoc]
          exact hH9.perm (List.Perm.swap _ _ _)
    · have hkN : k = N := by omega
      subst hkN
      rw [Nat.sub_self] at hll
      obtain rfl := List.length_eq_zero_iff.1 hll
      rw [List.nil_append] at hperm
      repeat' (first | refine zP ?_ | refine zA ?_ | (refine zM ?_; intro _ _) | refine zX ?_ | (refine zC ?_; intro _ _ _ _) | (refine zS ?_; intro _ _) | (apply Ws <;> intro hg))
      have hres : ∃ X, hasH X n2 H5 := ⟨_, hH5⟩
      rcases hrows with ⟨h, _⟩ | ⟨wi, u, Mr, Mi', Pi, r, rfl, rfl, rfl, h1, h2, h3⟩
      · omega
      have hp1 := (h1.own.sl M).one_
      refine WR.storeAll (by first | exact gN | exact gS rfl) hH5 rfl rfl (ls := [pv]) (by simp [Value.cells]) rfl (.there (.there .here)) (one_one hp1) rfl fun H6 hH6 => ?_
      repeat' (first | refine zP ?_ | refine zA ?_ | (refine zM ?_; intro _ _) | refine zX ?_ | (refine zC ?_; intro _ _ _ _) | (refine zS ?_; intro _ _) | (apply Ws <;> intro hg))
      have hsz : sizeL (Pi ++ [r]) = k := by rw [← size_flat, hperm.length_eq, List.length_range]
      refine Ends.retCN rfl (readAll hH6 (.tail _ (.tail _ (.head _))) rfl) ⟨Pi ++ [r], pv, ⟨hPne, hperm.nodup_iff.2 List.nodup_range, fun l hl x hx => ?_, by omega, by omega⟩, by omega, rfl, Mo ++ (Mr ++ Mi'), n2, by omega, ?_, ?_⟩
      · rw [hsz]
        exact List.mem_range.1 (hperm.mem_iff.1 (List.mem_flatten.2 ⟨l, hl, hx⟩))
      · rw [List.append_assoc]
        exact hH6.tail.tail.tail.tail
      · refine rowsI_of (ws := wi ++ [u]) (h1.own.sl _) ?_
        exact (rowsN_snoc h3 (h2.sl [])).mono fun q hq => by rw [List.append_nil] at hq; exact List.mem_append_right _ hq
end
end Go.Proofs.YtmgmkglmjmaipaaDoor.Ct

/- The first list of which each beginning fits: a search that goes back. -/
namespace Go.Abs
set_option linter.unusedSectionVars false
set_option linter.unusedVariables false
variable [Globs]
open Go
section
variable {C : CW} {ro : Option Nat} {fn : FuncId} {nt : Nat} {L : Env} {D : List Nat} {H : Heap} {K : Ex → St → Prop}
/-- A body to one of whose labels it goes back, each time lower. -/
def gotoK {α : Type} (l : Nat) (I : α → St → Prop) (m : α → Nat) (a : α) (K : Ex → St → Prop) : Ex → St → Prop
  | .goto j, s => j = l ∧ ∃ a', m a' < m a ∧ I a' s
  | e, s => K e s
theorem WC.scopeG {α : Type} {l : Nat} {b rest : PC} (hf : findLabelA b l = some rest) (Lf : α → Env) (Df : List Nat) (hp : α → Heap → Prop) (m : α → Nat) (a0 : α)
    (h0 : WC C ro fn nt b L D H (gotoK l (fun a => sat (Lf a) Df (hp a)) m a0 K))
    (hb : ∀ a H, hp a H → WC C ro fn nt rest (Lf a) Df H (gotoK l (fun a => sat (Lf a) Df (hp a)) m a K)) : WC C ro fn nt (.scope b) L D H K := by
  have key : ∀ (k : Nat) (a : α) (s : St), m a < k → sat (Lf a) Df (hp a) s → ∃ n e s', runW C n (.scope ro fn nt b rest s) = some (.code e s') ∧ K e s' := by
    intro k
    induction k with
    | zero => intro a s h; exact absurd h (Nat.not_lt_zero _)
    | succ k ih =>
      rintro a s hk ⟨q1, q2, q3⟩
      have hw := hb a s.H q3 s.t q1
      cases s with
      | mk t d H =>
      simp only at q2
      subst q2
      obtain ⟨n, e, s1, h1, h2⟩ := hw
      cases e with
      | goto j =>
        obtain ⟨rfl, a', hl, hi⟩ := h2
        obtain ⟨n2, e2, s2, h3, h4⟩ := ih a' s1 (by omega) hi
        refine ⟨max n n2 + 1, e2, s2, ?_, h4⟩
        show scopeC (runW C (max n n2)) ro fn nt b (stepC C.c (runW C (max n n2)) ro fn nt rest ⟨t, d, H⟩) = _
        rw [stepC_up (Nat.le_max_left n n2) h1]
        simp only [scopeC, hf]
        exact run_mono (Nat.le_max_right n n2) _ _ h3
      | normal => exact ⟨n + 1, _, s1, by show scopeC (runW C n) ro fn nt b (stepC C.c (runW C n) ro fn nt rest ⟨t, d, H⟩) = _; rw [h1]; rfl, h2⟩
      | ret => exact ⟨n + 1, _, s1, by show scopeC (runW C n) ro fn nt b (stepC C.c (runW C n) ro fn nt rest ⟨t, d, H⟩) = _; rw [h1]; rfl, h2⟩
      | exit j => exact ⟨n + 1, _, s1, by show scopeC (runW C n) ro fn nt b (stepC C.c (runW C n) ro fn nt rest ⟨t, d, H⟩) = _; rw [h1]; rfl, h2⟩
  intro t ht
  obtain ⟨n, e, s1, h1, h2⟩ := h0 t ht
  cases e with
  | goto j =>
    obtain ⟨rfl, a', hl, hi⟩ := h2
    obtain ⟨n2, e2, s2, h3, h4⟩ := key _ a' s1 (Nat.lt_succ_self _) hi
    refine ⟨max n n2, e2, s2, ?_, h4⟩
    simp only [stepC, stepC_up (Nat.le_max_left n n2) h1, scopeC, hf]
    exact run_mono (Nat.le_max_right n n2) _ _ h3
  | normal => exact ⟨n, _, s1, by simp only [stepC, h1, scopeC], h2⟩
  | ret => exact ⟨n, _, s1, by simp only [stepC, h1, scopeC], h2⟩
  | exit j => exact ⟨n, _, s1, by simp only [stepC, h1, scopeC], h2⟩
theorem WC.scopeL {α : Type} {l : Nat} {R : PC} (Lf : α → Env) (Df : List Nat) (hp : α → Heap → Prop) (m : α → Nat) (a0 : α) (hs : Sub L (Lf a0)) (hD : D = Df) (hH : hp a0 H)
    (hb : ∀ a H, hp a H → WC C ro fn nt R (Lf a) Df H (gotoK l (fun a => sat (Lf a) Df (hp a)) m a K)) : WC C ro fn nt (.scope (.seq (.label l) R)) L D H K := by
  subst hD
  refine WC.scopeG (rest := .seq .skip R) (l := l) ?_ Lf D hp m a0 (WC.seq (WC.label (Ends.seq ((hb a0 H hH).weaken hs)))) fun a H h => WC.seq (WC.skip (Ends.seq (hb a H h)))
  simp only [findLabelA, Nat.beq_refl, cond_true]
theorem Ends.goto_to {α : Type} {l : Nat} {Lf : α → Env} {Df : List Nat} {hp : α → Heap → Prop} {m : α → Nat} {a : α} (a' : α) (hm : m a' < m a) (h0 : Sub L (Lf a')) (hD : D = Df) (hH : hp a' H) :
    Ends (gotoK l (fun a => sat (Lf a) Df (hp a)) m a K) (.goto l) L D H :=
  fun t ht => ⟨rfl, a', hm, ht.weaken h0.mem, hD, hH⟩
end
section
variable {C : CW} {nt : Nat} {L : Env} {D : List Nat} {H : Heap} {K : St → Prop} {M M' : HL} {n i d : Nat} {gd : Option (Tmp × Bool)} {lo' : List Nat} {l : List POp}
open Go.Mth
/-- The first numbers of a slice. -/
theorem WR.cutHiN {x hi : Operand} {v : Value} {xs : List Nat} {m : Nat} {kd : IntKind} (hg : gOK L gd) (hd : Nat.blt d nt = true) (hx : ev L x = some v) (hS : Sl M 1 v (nodes xs)) (hh : ev L hi = some (.int kd (m : Int))) (hm : m ≤ xs.length)
    (k : ∀ v', Sl M 1 v' (nodes (xs.take m)) → WR C nt l ((d, v') :: L) D H K) : WR C nt (⟨i, some d, .slS x 1 none (some hi) none, gd, lo'⟩ :: l) L D H K := by
  refine WR.slS (vl := none) (vh := some (.int kd (m : Int))) (a := 0) (b := m) hg hd hx hS rfl (by simp [bnd, hh]) rfl (fun _ _ => rfl) (Nat.zero_le _) (by simpa using hm) (Nat.le_refl _) fun v' h => k v' ?_
  simpa [List.map_take] using h
end
end Go.Abs
namespace Go.Proofs.YtmgmkglmjmaipaaDoor.Ct
open Go Go.Abs Go.Mth
set_option linter.unusedVariables false
set_option linter.unusedSimpArgs false
/-- Each beginning fits. -/
def okP (fits : List Nat → Bool) (bound : Nat) (l : List Nat) : Prop := ∀ j, j < l.length → l.getD j 0 < bound ∧ fits (l.take (j + 1)) = true
/-- A list that is smaller than all that begin so. -/
def lexP (l q : List Nat) : Prop := ∃ p, p < q.length ∧ l.take p = q.take p ∧ l.getD p 0 < q.getD p 0
def FirstR (fits : List Nat → Bool) (bound n : Nat) (l : List Nat) : Prop := l.length = n ∧ okP fits bound l ∧ ∀ l', l'.length = n → okP fits bound l' → ¬ lexP l' l
structure SInv (fits : List Nat → Bool) (bound n : Nat) (pre : List Nat) (c : Nat) : Prop where
  ok : okP fits bound pre
  le : c ≤ bound
  lt : pre.length < n
  lex : ∀ l', l'.length = n → okP fits bound l' → ¬ lexP l' (pre ++ [c])
theorem snoc_get {pre : List Nat} {c : Nat} : (pre ++ [c]).getD pre.length 0 = c := getD_snoc
theorem okP_snoc {fits : List Nat → Bool} {bound c : Nat} {pre : List Nat} (h : okP fits bound pre) (hc : c < bound) (hf : fits (pre ++ [c]) = true) : okP fits bound (pre ++ [c]) := by
  intro j hj
  rw [List.length_append, List.length_singleton] at hj
  by_cases e : j < pre.length
  · rw [getD_app_l e, List.take_append_of_le_length (by omega)]; exact h j e
  · have : j = pre.length := by omega
    subst this
    rw [snoc_get, List.take_of_length_le (by simp)]
    exact ⟨hc, hf⟩
theorem okP_init {fits : List Nat → Bool} {bound a : Nat} {pre : List Nat} (h : okP fits bound (pre ++ [a])) : okP fits bound pre ∧ a < bound := by
  refine ⟨fun j hj => ?_, ?_⟩
  · have := h j (by simp; omega)
    rwa [getD_app_l hj, List.take_append_of_le_length (by omega)] at this
  · have := h pre.length (by simp)
    rw [snoc_get] at this
    exact this.1
theorem lexP_snoc {l pre : List Nat} {c : Nat} (h : lexP l (pre ++ [c])) : (∃ p, p < pre.length ∧ l.take p = pre.take p ∧ l.getD p 0 < pre.getD p 0) ∨ (l.take pre.length = pre ∧ l.getD pre.length 0 < c) := by
  obtain ⟨p, hp, h1, h2⟩ := h
  rw [List.length_append, List.length_singleton] at hp
  by_cases e : p < pre.length
  · rw [getD_app_l e] at h2
    rw [List.take_append_of_le_length (by omega)] at h1
    exact .inl ⟨p, e, h1, h2⟩
  · have : p = pre.length := by omega
    subst this
    rw [snoc_get] at h2
    rw [List.take_append_of_le_length (Nat.le_refl _), List.take_length] at h1
    exact .inr ⟨h1, h2⟩
theorem lexP_of {l pre : List Nat} {c : Nat} (h : (∃ p, p < pre.length ∧ l.take p = pre.take p ∧ l.getD p 0 < pre.getD p 0) ∨ (l.take pre.length = pre ∧ l.getD pre.length 0 < c)) : lexP l (pre ++ [c]) := by
  rcases h with ⟨p, hp, h1, h2⟩ | ⟨h1, h2⟩
  · exact ⟨p, by simp; omega, by rw [List.take_append_of_le_length (by omega)]; exact h1, by rw [getD_app_l hp]; exact h2⟩
  · exact ⟨pre.length, by simp, by rw [List.take_append_of_le_length (Nat.le_refl _), List.take_length]; exact h1, by rw [snoc_get]; exact h2⟩
theorem take_snoc {l pre : List Nat} {c : Nat} (h1 : l.take pre.length = pre) (h2 : l.getD pre.length 0 = c) (h3 : pre.length < l.length) : l.take (pre.length + 1) = pre ++ [c] := by
  rw [List.take_succ_eq_append_getElem h3, h1, ← getD_eq (a := 0) h3, h2]
theorem SInv.zero (fits : List Nat → Bool) {bound n : Nat} (h : 0 < n) : SInv fits bound n [] 0 :=
  ⟨fun j hj => absurd hj (Nat.not_lt_zero _), Nat.zero_le _, h, fun l' _ _ hl => by
    rcases lexP_snoc (pre := []) hl with ⟨p, hp, _⟩ | ⟨_, h⟩
    · exact absurd hp (Nat.not_lt_zero _)
    · exact absurd h (Nat.not_lt_zero _)⟩
theorem SInv.skip {fits : List Nat → Bool} {bound n c : Nat} {pre : List Nat} (h : SInv fits bound n pre c) (hc : c < bound) (hf : fits (pre ++ [c]) = false) : SInv fits bound n pre (c + 1) :=
  ⟨h.ok, hc, h.lt, fun l' hl hok hx => by
    rcases lexP_snoc hx with h1 | ⟨h1, h2⟩
    · exact h.lex l' hl hok (lexP_of (.inl h1))
    · by_cases e : l'.getD pre.length 0 = c
      · have := (hok pre.length (by rw [hl]; exact h.lt)).2
        rw [take_snoc h1 e (by rw [hl]; exact h.lt), hf] at this
        cases this
      · exact h.lex l' hl hok (lexP_of (.inr ⟨h1, by omega⟩))⟩
theorem lexP_zero {l pre : List Nat} {c : Nat} (h : lexP l ((pre ++ [c]) ++ [0])) : lexP l (pre ++ [c]) := by
  rcases lexP_snoc h with h1 | ⟨_, h2⟩
  · exact h1
  · exact absurd h2 (Nat.not_lt_zero _)
theorem SInv.next {fits : List Nat → Bool} {bound n c : Nat} {pre : List Nat} (h : SInv fits bound n pre c) (hc : c < bound) (hf : fits (pre ++ [c]) = true) (hn : pre.length + 1 < n) : SInv fits bound n (pre ++ [c]) 0 :=
  ⟨okP_snoc h.ok hc hf, Nat.zero_le _, by simpa using hn, fun l' hl hok hx => h.lex l' hl hok (lexP_zero hx)⟩
theorem SInv.last {fits : List Nat → Bool} {bound n c : Nat} {pre : List Nat} (h : SInv fits bound n pre c) (hc : c < bound) (hf : fits (pre ++ [c]) = true) (hn : pre.length + 1 = n) : FirstR fits bound n (pre ++ [c]) :=
  ⟨by simpa using hn, okP_snoc h.ok hc hf, h.lex⟩
theorem SInv.none {fits : List Nat → Bool} {bound n c : Nat} (h : SInv fits bound n [] c) (hc : ¬ c < bound) : ∀ l', l'.length = n → ¬ okP fits bound l' := fun l' hl hok => by
  have hlt : 0 < n := h.lt
  have := (hok 0 (by omega)).1
  exact h.lex l' hl hok (lexP_of (pre := []) (.inr ⟨rfl, by show l'.getD 0 0 < c; omega⟩))
theorem SInv.back {fits : List Nat → Bool} {bound n c a : Nat} {pre : List Nat} (h : SInv fits bound n (pre ++ [a]) c) (hc : ¬ c < bound) : SInv fits bound n pre (a + 1) := by
  obtain ⟨h1, h2⟩ := okP_init h.ok
  have hlt := h.lt
  rw [List.length_append, List.length_singleton] at hlt
  refine ⟨h1, by omega, by omega, fun l' hl hok hx => ?_⟩
  rcases lexP_snoc hx with h3 | ⟨h3, h4⟩
  · refine h.lex l' hl hok (lexP_of (.inl ?_))
    obtain ⟨p, hp, k1, k2⟩ := h3
    exact ⟨p, by simp; omega, by rw [List.take_append_of_le_length (by omega)]; exact k1, by rw [getD_app_l hp]; exact k2⟩
  · by_cases e : l'.getD pre.length 0 = a
    · have ht := take_snoc h3 e (by omega)
      refine h.lex l' hl hok (lexP_of (.inr ⟨by simpa using ht, ?_⟩))
      have := (hok (pre.length + 1) (by omega)).1
      simp only [List.length_append, List.length_singleton]
      omega
    · refine h.lex l' hl hok (lexP_of (.inl ⟨pre.length, by simp, ?_, ?_⟩))
      · rw [List.take_append_of_le_length (Nat.le_refl _), List.take_length]; exact h3
      · rw [snoc_get]; omega
/-- A list as a number. -/
def numB (B : Nat) : List Nat → Nat
  | [] => 0
  | d :: l => d * B ^ l.length + numB B l
theorem numB_append (B : Nat) : ∀ (a b : List Nat), numB B (a ++ b) = numB B a * B ^ b.length + numB B b
  | [], b => by simp [numB]
  | d :: a, b => by
    simp only [List.cons_append, numB, numB_append B a b, List.length_append, Nat.pow_add, Nat.add_mul, Nat.mul_assoc, Nat.add_assoc]
theorem numB_zeros (B k : Nat) : numB B (List.replicate k 0) = 0 := by
  induction k with
  | zero => rfl
  | succ k ih => simp [List.replicate_succ, numB, ih]
theorem numB_lt {B : Nat} : ∀ {l : List Nat}, (∀ x ∈ l, x < B) → numB B l < B ^ l.length
  | [], _ => by simp [numB]
  | d :: l, h => by
    have h1 := numB_lt (l := l) fun x hx => h x (by simp [hx])
    have h2 := h d (by simp)
    have h3 : (d + 1) * B ^ l.length ≤ B * B ^ l.length := Nat.mul_le_mul_right _ h2
    rw [Nat.add_mul, Nat.one_mul] at h3
    rw [numB, List.length_cons, Nat.pow_succ, Nat.mul_comm (B ^ l.length) B]
    omega
/-- The row of a search. -/
def flx (n : Nat) (pre : List Nat) (c : Nat) : List Nat := pre ++ c :: List.replicate (n - 1 - pre.length) 0
theorem fl_len {n c : Nat} {pre : List Nat} (h : pre.length < n) : (flx n pre c).length = n := by simp [flx]; omega
theorem fl_get {n c : Nat} {pre : List Nat} : (flx n pre c).getD pre.length 0 = c := by
  unfold flx
  rw [List.getD_eq_getElem?_getD, List.getElem?_append_right (Nat.le_refl _)]; simp
theorem fl_set {n c d : Nat} {pre : List Nat} : (flx n pre c).set pre.length d = flx n pre d := by
  unfold flx
  rw [List.set_append_right _ _ (Nat.le_refl _)]; simp
theorem fl_take {n c : Nat} {pre : List Nat} : (flx n pre c).take (pre.length + 1) = pre ++ [c] := by
  unfold flx
  rw [List.take_append, List.take_of_length_le (by omega)]; simp
theorem fl_next {n c : Nat} {pre : List Nat} (h : pre.length + 1 < n) : flx n (pre ++ [c]) 0 = flx n pre c := by
  unfold flx
  rw [show n - 1 - pre.length = (n - 1 - (pre ++ [c]).length) + 1 by simp; omega, List.replicate_succ]; simp
theorem fl_last {n c : Nat} {pre : List Nat} (h : pre.length + 1 = n) : flx n pre c = pre ++ [c] := by
  unfold flx
  rw [show n - 1 - pre.length = 0 by omega]; rfl
theorem fl_back {n a c : Nat} {pre : List Nat} (h : pre.length + 1 < n) : (((flx n (pre ++ [a]) c).set (pre.length + 1) 0).set pre.length (a + 1)) = flx n pre (a + 1) := by
  have e1 : (pre ++ [a]).length = pre.length + 1 := by simp
  rw [← e1, fl_set, fl_next h, fl_set]
theorem fl_get2 {n a c : Nat} {pre : List Nat} : ((flx n (pre ++ [a]) c).set (pre.length + 1) 0).getD pre.length 0 = a := by
  have e1 : (pre ++ [a]).length = pre.length + 1 := by simp
  rw [← e1, fl_set]
  unfold flx
  rw [List.append_assoc, List.getD_eq_getElem?_getD, List.getElem?_append_right (Nat.le_refl _)]; simp
def nf (B n : Nat) (pre : List Nat) (c : Nat) : Nat := numB B (flx n pre c)
theorem nf_eq {B n c : Nat} {pre : List Nat} : nf B n pre c = numB B pre * B ^ (n - 1 - pre.length + 1) + c * B ^ (n - 1 - pre.length) := by
  unfold nf flx
  rw [numB_append, numB, List.length_cons, List.length_replicate, numB_zeros]; omega
theorem nf_succ {B n c : Nat} {pre : List Nat} (hB : 0 < B) : nf B n pre c < nf B n pre (c + 1) := by
  have := Nat.pow_pos (n := n - 1 - pre.length) hB
  rw [nf_eq, nf_eq, Nat.add_mul, Nat.one_mul]; omega
theorem nf_back {B n a c : Nat} {pre : List Nat} (hc : c < B) (h : pre.length + 1 < n) : nf B n (pre ++ [a]) c < nf B n pre (a + 1) := by
  rw [nf_eq, nf_eq, numB_append]
  have e1 : n - 1 - (pre ++ [a]).length + 1 = n - 1 - pre.length := by simp; omega
  rw [e1]
  have e2 : n - 1 - pre.length = (n - 1 - (pre ++ [a]).length) + 1 := by simp; omega
  have h1 : c * B ^ (n - 1 - (pre ++ [a]).length) < B ^ (n - 1 - pre.length) := by
    rw [e2, Nat.pow_succ, Nat.mul_comm _ B]
    exact Nat.mul_lt_mul_of_pos_right hc (Nat.pow_pos (by omega))
  have h2 : numB B [a] = a := by simp [numB]
  rw [h2, List.length_singleton, Nat.pow_one, Nat.pow_succ, Nat.add_mul, Nat.add_mul, Nat.one_mul, Nat.mul_comm (B ^ (n - 1 - pre.length)) B, Nat.mul_assoc]
  omega
theorem nf_lt {fits : List Nat → Bool} {bound n c : Nat} {pre : List Nat} (h : SInv fits bound n pre c) : nf (bound + 1) n pre c < (bound + 1) ^ n := by
  have := numB_lt (B := bound + 1) (l := flx n pre c) fun x hx => by
    unfold flx at hx
    rcases List.mem_append.1 hx with hx | hx
    · obtain ⟨j, hj, rfl⟩ := List.mem_iff_getElem.1 hx
      have := (h.ok j hj).1
      rw [getD_eq hj] at this
      omega
    · rcases List.mem_cons.1 hx with rfl | hx
      · have := h.le; omega
      · rw [(List.mem_replicate.1 hx).2]; omega
  rwa [fl_len h.lt] at this
end Go.Proofs.YtmgmkglmjmaipaaDoor.Ct

/- first. -/
namespace Go.Proofs.YtmgmkglmjmaipaaDoor.Ct
open Go Go.Abs Go.Mth
set_option linter.unusedVariables false
set_option linter.unusedSimpArgs false
abbrev slB (b N : Nat) : Value := .slice (some ⟨b, 0, some 0⟩) N (2 * N + 1)
/-- A test of beginnings, whatever else the heap holds. -/
def FitsF (g : FuncId) (va vb : List Value) (M : HL) (n : Nat) (fits : List Nat → Bool) : Prop :=
  ∀ {X : HL} {n' : Nat} {H' : Heap} {s : Value} {l : List Nat}, (∀ q ∈ M, q ∈ X) → hasH X n' H' → Sl X 1 s (nodes l) → l ≠ [] → l.length ≤ n → FS C g (va ++ [s] ++ vb) H' (fun e H'' => ∃ n'', n' ≤ n'' ∧ hasH X n'' H'' ∧ e = .bool (fits l))
theorem meas_lt {T a b x y k : Nat} (h1 : a < T) (h2 : a < b) (hx : x < k) : (T - b) * k + x < (T - a) * k + y := by
  have h3 : (T - b) + 1 ≤ T - a := by omega
  have h4 := Nat.mul_le_mul_right k h3
  rw [Nat.add_mul, Nat.one_mul] at h4
  omega
structure SO where
  pre : List Nat
  n : Nat
structure SC where
  pre : List Nat
  c : Nat
  n : Nat
attribute [local irreducible] gOK WS WC WR WD Ends FS YS OpV seqK blockK loopK midK retK rdK asgK rangeEnd sat Cell
section
variable {M : HL} {n0 : Nat} {H : Heap} {v w : Value}
set_option maxHeartbeats 4000000 in
theorem first_fs (hH : hasH M n0 H) {n bound : Nat} (hn : n ≤ 16) (hb : bound ≤ 16) {g : FuncId} {va vb : List Value} {fits : List Nat → Bool} (hf : FitsF g va vb M n fits) :
    FS C 98 [.int .i64 (n : Int), .int .i64 (bound : Int), .func (.func g) va.toArray vb.toArray] H (fun e H' => ∃ n' b, n0 ≤ n' ∧ n0 ≤ b ∧ ((∃ l, FirstR fits bound n l ∧ hasH ((b, .row 3 0 0 (nodes l)) :: M) n' H' ∧ e = .tuple #[slB b n, .bool true]) ∨ ((∀ l, l.length = n → ¬ okP fits bound l) ∧ hasH M n' H' ∧ e = .tuple #[.slice none 0 0, .bool false]))) := by
  refine FS.intro (pf := pf98) rfl rfl rfl ?_
  repeat' (first | refine zP ?_ | refine zA ?_ | (refine zM ?_; intro _ _) | refine zX ?_ | (refine zC ?_; intro _ _ _ _) | (refine zS ?_; intro _ _) | (apply Ws <;> intro hg))
  refine WR.mkS (by first | exact gN | exact gS rfl) rfl hH rfl rfl (by omega) rfl fun H1 hH1 => ?_
  replace hH1 : hasH ((n0, .row 3 0 0 (nodes (List.replicate n 0))) :: M) (n0 + 1) H1 := by simpa [nodes] using hH1
  repeat' (first | refine zP ?_ | refine zA ?_ | (refine zM ?_; intro _ _) | refine zX ?_ | (refine zC ?_; intro _ _ _ _) | (refine zS ?_; intro _ _) | (apply Ws <;> intro hg))
  refine WC.loopX [(0, _), (1, _), (2, _), (8, slB n0 n)] (fun a : SO => [(9, .int .i64 (a.pre.length : Int))]) []
    (fun a H' => n0 + 1 ≤ a.n ∧ ((a.pre.length < n ∧ SInv fits bound n a.pre 0 ∧ hasH ((n0, .row 3 0 0 (nodes (flx n a.pre 0))) :: M) a.n H') ∨ (a.pre.length = n ∧ FirstR fits bound n a.pre ∧ hasH ((n0, .row 3 0 0 (nodes a.pre)) :: M) a.n H')))
    (fun a => ((bound + 1) ^ n - (if a.pre.length < n then nf (bound + 1) n a.pre 0 else numB (bound + 1) a.pre)) * (n + 2) + (n - a.pre.length)) ⟨[], n0 + 1⟩ (by repeat' (first | exact .nil | refine .cons rfl ?_)) rfl
    ⟨Nat.le_refl _, ?_⟩ ?_
  · by_cases h0 : 0 < n
    · refine .inl ⟨h0, .zero _ h0, ?_⟩
      have : flx n [] 0 = List.replicate n 0 := by
        unfold flx
        rw [List.nil_append, ← List.replicate_succ, List.length_nil]
        congr 1; omega
      simp only
      rw [this]; exact hH1
    · have : n = 0 := by omega
      subst this
      exact .inr ⟨rfl, ⟨rfl, fun j hj => absurd hj (Nat.not_lt_zero _), fun l' _ _ ⟨p, hp, _⟩ => absurd hp (Nat.not_lt_zero _)⟩, hH1⟩
  clear hH hH1
  rintro ⟨pre, n1⟩ H2 ⟨hn1, hI⟩
  simp only at hn1 hI
  dsimp only [List.cons_append, List.nil_append]
  repeat' (first | refine zP ?_ | refine zA ?_ | (refine zM ?_; intro _ _) | refine zX ?_ | (refine zC ?_; intro _ _ _ _) | (refine zS ?_; intro _ _) | (apply Ws <;> intro hg))
  refine WC.condP rfl (fun hlt => ?_) (fun hlt => ?_)
  · have hlt' : pre.length < n := by omega
    obtain ⟨hI, hH2⟩ : SInv fits bound n pre 0 ∧ hasH ((n0, .row 3 0 0 (nodes (flx n pre 0))) :: M) n1 H2 := by
      rcases hI with ⟨_, a, b⟩ | ⟨h, _⟩
      · exact ⟨a, b⟩
      · omega
    repeat' (first | refine zP ?_ | refine zA ?_ | (refine zM ?_; intro _ _) | refine zX ?_ | (refine zC ?_; intro _ _ _ _) | (refine zS ?_; intro _ _) | (apply Ws <;> intro hg))
    obtain ⟨pre0, hpre0⟩ : ∃ p, p = pre := ⟨_, rfl⟩
    refine WC.scopeL (fun a : SC => [(0, .int .i64 (n : Int)), (1, .int .i64 (bound : Int)), (2, .func (.func g) va.toArray vb.toArray), (8, slB n0 n), (9, .int .i64 (a.pre.length : Int))]) []
      (fun a H' => n0 + 1 ≤ a.n ∧ SInv fits bound n a.pre a.c ∧ nf (bound + 1) n pre0 0 ≤ nf (bound + 1) n a.pre a.c ∧ (nf (bound + 1) n pre0 0 < nf (bound + 1) n a.pre a.c ∨ a.pre = pre0) ∧ hasH ((n0, .row 3 0 0 (nodes (flx n a.pre a.c))) :: M) a.n H')
      (fun a => (bound + 1) ^ n - nf (bound + 1) n a.pre a.c) ⟨pre, 0, n1⟩ (by repeat' (first | exact .nil | refine .cons rfl ?_)) rfl ⟨hn1, hI, by rw [hpre0]; exact Nat.le_refl _, .inr hpre0.symm, hH2⟩ ?_
    have hm0 := nf_lt hI
    rw [← hpre0] at hlt' hm0
    clear hI hH2 hlt hn1
    rintro ⟨pre2, c, n2⟩ H3 ⟨hn2, hI, hge, hor, hH3⟩
    simp only at hn2 hI hge hor hH3
    dsimp only [List.cons_append, List.nil_append]
    repeat' (first | refine zP ?_ | refine zA ?_ | (refine zM ?_; intro _ _) | refine zX ?_ | (refine zC ?_; intro _ _ _ _) | (refine zS ?_; intro _ _) | (apply Ws <;> intro hg))
    refine WC.loopX [(0, .int .i64 (n : Int)), (1, .int .i64 (bound : Int)), (2, .func (.func g) va.toArray vb.toArray), (8, slB n0 n), (9, .int .i64 (pre2.length : Int))] (fun _ : SC => []) []
      (fun a H' => n0 + 1 ≤ a.n ∧ SInv fits bound n pre2 a.c ∧ nf (bound + 1) n pre2 c ≤ nf (bound + 1) n pre2 a.c ∧ nf (bound + 1) n pre0 0 ≤ nf (bound + 1) n pre2 a.c ∧ (nf (bound + 1) n pre0 0 < nf (bound + 1) n pre2 a.c ∨ pre2 = pre0) ∧ hasH ((n0, .row 3 0 0 (nodes (flx n pre2 a.c))) :: M) a.n H')
      (fun a => bound - a.c) ⟨pre2, c, n2⟩ (by repeat' (first | exact .nil | refine .cons rfl ?_)) rfl ⟨hn2, hI, Nat.le_refl _, hge, hor, hH3⟩ ?_
    clear hn2 hI hge hor hH3
    rintro ⟨_, c2, n3⟩ H4 ⟨hn3, hI, hcc, hge, hor, hH4⟩
    simp only at hn3 hI hcc hge hor hH4
    have hlen := fl_len (c := c2) hI.lt
    have hplt := hI.lt
    have hcle := hI.le
    have hget : (flx n pre2 c2).getD pre2.length 0 = c2 := fl_get
    have hSl : Sl ((n0, Ch.row 3 0 0 (nodes (flx n pre2 c2))) :: M) 1 (slB n0 n) (nodes (flx n pre2 c2)) := .row (.head _) (.row _ _ _ _) (Nat.le_refl _) (by rw [Nat.mul_one]; simp [hlen]) (by rw [Nat.sub_self, List.drop_zero, List.take_of_length_le (by simp [hlen])]) (by simp [hlen]) (.inr ⟨n, rfl, Nat.le_refl _⟩)
    dsimp only [List.cons_append, List.nil_append]
    repeat' (first | refine zP ?_ | refine zA ?_ | (refine zM ?_; intro _ _) | refine zX ?_ | (refine zC ?_; intro _ _ _ _) | (refine zS ?_; intro _ _) | (apply Ws <;> intro hg))
    · have hcb : c2 < bound := by omega
      refine WR.cutHiN (m := pre2.length + 1) (by first | exact gN | exact gS rfl) rfl rfl hSl rfl (by omega) fun s hs => ?_
      rw [fl_take] at hs
      refine WR.callV (va := va) (vb := vb) (vs := [s]) (by first | exact gN | exact gS rfl) rfl rfl rfl (hf (fun q hq => List.mem_cons_of_mem _ hq) hH4 hs (by simp) (by simp; omega)) ?_
      rintro _ H5 ⟨n5, hn5, hH5, rfl⟩
      clear hH4
      cases hfit : fits (pre2 ++ [c2]) with
      | true =>
        repeat' (first | refine zP ?_ | refine zA ?_ | (refine zM ?_; intro _ _) | refine zX ?_ | (refine zC ?_; intro _ _ _ _) | (refine zS ?_; intro _ _) | refine zO ?_ | (apply Ws <;> intro hg))
        rw [show (pre2.length : Int) + 1 = ((pre2 ++ [c2]).length : Int) by simp]
        by_cases hlast : pre2.length + 1 < n
        · have hnx := hI.next hcb hfit hlast
          have hnf : nf (bound + 1) n (pre2 ++ [c2]) 0 = nf (bound + 1) n pre2 c2 := by unfold nf; rw [fl_next hlast]
          refine Ends.loop ⟨pre2 ++ [c2], n5⟩ ?_ (by repeat' (first | exact .nil | refine .cons rfl ?_)) rfl ⟨by simp only; omega, .inl ⟨by simpa using hlast, hnx, by simp only; rw [fl_next hlast]; exact hH5⟩⟩
          simp only
          rw [if_pos (show (pre2 ++ [c2]).length < n by simpa using hlast), ← hpre0, if_pos hlt', hnf]
          rcases hor with h | h
          · exact meas_lt hm0 h (by omega)
          · subst h
            have := Nat.sub_le_sub_left hge ((bound + 1) ^ n)
            have h2 := Nat.mul_le_mul_right (n + 2) this
            simp only [List.length_append, List.length_singleton]
            omega
        · have hl : pre2.length + 1 = n := by omega
          have hnx := hI.last hcb hfit hl
          rw [fl_last hl] at hH5
          have hnf : numB (bound + 1) (pre2 ++ [c2]) = nf (bound + 1) n pre2 c2 := by unfold nf; rw [fl_last hl]
          refine Ends.loop ⟨pre2 ++ [c2], n5⟩ ?_ (by repeat' (first | exact .nil | refine .cons rfl ?_)) rfl ⟨by simp only; omega, .inr ⟨by simpa using hl, hnx, hH5⟩⟩
          simp only
          rw [if_neg (show ¬ (pre2 ++ [c2]).length < n by simp; omega), ← hpre0, if_pos hlt', hnf]
          rcases hor with h | h
          · exact meas_lt hm0 h (by omega)
          · subst h
            have := Nat.sub_le_sub_left hge ((bound + 1) ^ n)
            have h2 := Nat.mul_le_mul_right (n + 2) this
            simp only [List.length_append, List.length_singleton]
            omega
      | false =>
        repeat' (first | refine zP ?_ | refine zA ?_ | (refine zM ?_; intro _ _) | refine zX ?_ | (refine zC ?_; intro _ _ _ _) | (refine zS ?_; intro _ _) | (apply Ws <;> intro hg))
        rename_i H6 hH6
        rw [hget, fl_set] at hH6
        exact Ends.loop ⟨pre2, c2 + 1, n5⟩ (by simp only; omega) (by repeat' (first | exact .nil | refine .cons rfl ?_)) rfl ⟨by simp only; omega, hI.skip hcb hfit, by have := nf_succ (B := bound + 1) (n := n) (c := c2) (pre := pre2) (by omega); simp only; omega, by have := nf_succ (B := bound + 1) (n := n) (c := c2) (pre := pre2) (by omega); simp only; omega, hor.imp (fun h => by have := nf_succ (B := bound + 1) (n := n) (c := c2) (pre := pre2) (by omega); simp only; omega) id, hH6⟩
    · have hcb : ¬ c2 < bound := by omega
      have hvn : ¬ ((flx n pre2 c2).getD pre2.length 0 : Int) < (bound : Int) := hg
      repeat' (first | refine zP ?_ | refine zA ?_ | (refine zM ?_; intro _ _) | refine zX ?_ | (refine zC ?_; intro _ _ _ _) | (refine zS ?_; intro _ _) | refine zO ?_ | (apply Ws <;> intro hg))
      refine WC.condP rfl (fun hz => ?_) (fun hz => ?_)
      · have hp0 : pre2 = [] := List.length_eq_zero_iff.1 (by omega)
        subst hp0
        repeat' (first | refine zP ?_ | refine zA ?_ | (refine zM ?_; intro _ _) | refine zX ?_ | (refine zC ?_; intro _ _ _ _) | (refine zS ?_; intro _ _) | (apply Ws <;> intro hg))
        exact Ends.ret2 rfl rfl ⟨n3, n0, by omega, Nat.le_refl _, .inr ⟨hI.none hcb, hH4.tail, rfl⟩⟩
      · obtain ⟨pre3, a, rfl⟩ : ∃ pre3 a, pre2 = pre3 ++ [a] := by
          rcases List.eq_nil_or_concat pre2 with h | ⟨q, a, h⟩
          · subst h; exact absurd rfl hz
          · exact ⟨q, a, by rw [h, List.concat_eq_append]⟩
        have hbk := hI.back hcb
        have hp3 := hbk.lt
        have hpl : (pre3 ++ [a]).length = pre3.length + 1 := by simp
        rw [hpl] at hplt ⊢
        repeat' (first | refine zP ?_ | refine zA ?_ | (refine zM ?_; intro _ _) | refine zX ?_ | (refine zC ?_; intro _ _ _ _) | (refine zS ?_; intro _ _) | (apply Ws <;> intro hg))
        rename_i H6 hH6
        replace hH6 : hasH ((n0, .row 3 0 0 (nodes ((flx n (pre3 ++ [a]) c2).set (pre3.length + 1) 0))) :: M) n3 H6 := hH6
        have hl2 : ((flx n (pre3 ++ [a]) c2).set (pre3.length + 1) 0).length = n := by rw [List.length_set]; exact hlen
        rw [show pre3.length + 1 - 1 = pre3.length by omega, show ((pre3.length + 1 : Nat) : Int) - 1 = (pre3.length : Int) by omega]
        have hab := (okP_init hI.ok).2
        have hg2 := fl_get2 (n := n) (a := a) (c := c2) (pre := pre3)
        repeat' (first | refine zP ?_ | refine zA ?_ | (refine zM ?_; intro _ _) | refine zX ?_ | (refine zC ?_; intro _ _ _ _) | (refine zS ?_; intro _ _) | (apply Ws <;> intro hg))
        rename_i H7 hH7
        rw [hg2, fl_back hplt] at hH7
        have hnb := nf_back (B := bound + 1) (n := n) (a := a) (c := c2) (pre := pre3) (by omega) hplt
        have hnl := nf_lt hI
        refine Ends.goto_to ⟨pre3, a + 1, n3⟩ (by simp only; omega) (by repeat' (first | exact .nil | refine .cons rfl ?_)) rfl ⟨hn3, hbk, by simp only; omega, .inl (by simp only; omega), hH7⟩
  · rcases hI with ⟨h, _⟩ | ⟨hl, hF, hH2⟩
    · omega
    repeat' (first | refine zP ?_ | refine zA ?_ | (refine zM ?_; intro _ _) | refine zX ?_ | (refine zC ?_; intro _ _ _ _) | (refine zS ?_; intro _ _) | (apply Ws <;> intro hg))
    refine Ends.ret2 rfl rfl ⟨n1, n0, by omega, Nat.le_refl _, .inl ⟨pre, hF, hH2, rfl⟩⟩
end
end Go.Proofs.YtmgmkglmjmaipaaDoor.Ct

/- proper, colour; drawWithoutLoops, Fewest, Colour. -/
namespace Go.Proofs.YtmgmkglmjmaipaaDoor.Ct
open Go Go.Abs Go.Mth
set_option linter.unusedVariables false
set_option linter.unusedSimpArgs false
/-- Colours are proper, as far as points have one. -/
def properB (A : List Nat) (k : Nat) (l : List Nat) : Bool := (List.range k).all fun j => !(decide (A.getD (2 * j) 0 < l.length) && decide (A.getD (2 * j + 1) 0 < l.length) && decide (l.getD (A.getD (2 * j) 0) 0 = l.getD (A.getD (2 * j + 1) 0) 0))
theorem properB_succ (A : List Nat) (k : Nat) (l : List Nat) : properB A (k + 1) l = (properB A k l && !(decide (A.getD (2 * k) 0 < l.length) && decide (A.getD (2 * k + 1) 0 < l.length) && decide (l.getD (A.getD (2 * k) 0) 0 = l.getD (A.getD (2 * k + 1) 0) 0))) := by
  simp [properB, List.range_succ]
theorem properB_no {A : List Nat} {k m : Nat} {l : List Nat} (h : k < m) (h1 : A.getD (2 * k) 0 < l.length) (h2 : A.getD (2 * k + 1) 0 < l.length) (h3 : l.getD (A.getD (2 * k) 0) 0 = l.getD (A.getD (2 * k + 1) 0) 0) : properB A m l = false := by
  unfold properB
  rw [List.all_eq_false]
  refine ⟨k, List.mem_range.2 h, ?_⟩
  simp only [decide_eq_true h1, decide_eq_true h2, decide_eq_true h3]; decide
attribute [local irreducible] gOK WS WC WR WD Ends FS YS OpV seqK blockK loopK midK retK rdK asgK rangeEnd sat Cell
section
variable {M : HL} {n0 : Nat} {H : Heap} {v w : Value}
set_option maxHeartbeats 2000000 in
theorem properF_fs (hH : hasH M n0 H) {V N : Nat} {A F B : List Nat} (hA : A.length = 16) (hF : F.length = 16) (hB : B.length = 16) (hN : N ≤ 16) {l : List Nat} (hS : Sl M 1 v (nodes l)) (hl : l.length ≤ 1000) (hb : ∀ j, j < N → A.getD j 0 ≤ 1000) :
    FS C 79 [.agg (nodes (dw V N A F B)).toArray, v] H (fun e H' => ∃ n', n0 ≤ n' ∧ hasH M n' H' ∧ e = .bool (properB A (N / 2) l)) := by
  have hd1 := nodes_one' (dw V N A F B)
  have hdl := dw_len (V := V) (c := N) hA hF hB
  refine FS.intro (pf := pf79) rfl rfl rfl ?_
  repeat' (first | refine zP ?_ | refine zA ?_ | (refine zM ?_; intro _ _) | refine zX ?_ | (refine zC ?_; intro _ _ _ _) | (refine zS ?_; intro _ _) | (apply Ws <;> intro hg))
  rename_i H1 hH1
  refine WR.op (by first | exact gN | exact gS rfl) rfl (OpV.loadAll rfl hH1 (.head _) (.row _ _ _ _) (by simp [hdl])) ?_
  refine WR.call (by first | exact gN | exact gS rfl) rfl rfl (lines_fs hH1 hA hF hB hN) ?_
  rintro _ H5 ⟨n5, hn5, hH5, rfl⟩
  clear hH hH1
  repeat' (first | refine zP ?_ | refine zA ?_ | (refine zM ?_; intro _ _) | refine zX ?_ | (refine zC ?_; intro _ _ _ _) | (refine zS ?_; intro _ _) | (apply Ws <;> intro hg))
  refine WC.loopX [(1, v), (2, .pointer (some ⟨n0, 0, some 0⟩)), (9, .int .i64 ((N / 2 : Nat) : Int))] (fun a : Nat × Nat => [(10, .int .i64 (a.1 : Int))]) []
    (fun a H' => a.1 ≤ N / 2 ∧ n0 ≤ a.2 ∧ properB A a.1 l = true ∧ hasH ((n0, .row 77 0 0 (nodes (dw V N A F B))) :: M) a.2 H') (fun a => N / 2 - a.1) (0, n5) (by repeat' (first | exact .nil | refine .cons rfl ?_)) rfl
    ⟨Nat.zero_le _, by simp only; omega, rfl, hH5⟩ ?_
  clear hH5
  rintro ⟨k, n6⟩ H6 ⟨hk, hn6, hp, hH6⟩
  simp only at hk hn6 hp hH6
  dsimp only [List.cons_append, List.nil_append]
  repeat' (first | refine zP ?_ | refine zA ?_ | (refine zM ?_; intro _ _) | refine zX ?_ | (refine zC ?_; intro _ _ _ _) | (refine zS ?_; intro _ _) | (apply Ws <;> intro hg))
  refine WC.condP rfl (fun hlt => ?_) (fun hlt => ?_)
  · have hk' : k < N / 2 := by omega
    repeat' (first | refine zP ?_ | refine zA ?_ | (refine zM ?_; intro _ _) | refine zX ?_ | (refine zC ?_; intro _ _ _ _) | (refine zS ?_; intro _ _) | (apply Ws <;> intro hg))
    refine WR.op (by first | exact gN | exact gS rfl) rfl (OpV.loadAll rfl hH6 (.head _) (.row _ _ _ _) (by simp [hdl])) ?_
    repeat' (first | refine zP ?_ | refine zA ?_ | (refine zM ?_; intro _ _) | refine zX ?_ | (refine zC ?_; intro _ _ _ _) | (refine zS ?_; intro _ _) | (apply Ws <;> intro hg))
    refine WR.call (by first | exact gN | exact gS rfl) rfl rfl (line_fs hH6 hA hF hB (by omega)) ?_
    rintro _ H7 ⟨n7, hn7, hH7, rfl⟩
    have hb1 := hb (2 * k) (by omega)
    have hb2 := hb (2 * k + 1) (by omega)
    clear hH6
    have hps := properB_succ A k l
    have hno := fun h1 h2 h3 => properB_no (A := A) (k := k) (m := N / 2) (l := l) hk' h1 h2 h3
    generalize A.getD (2 * k) 0 = x at *
    generalize A.getD (2 * k + 1) 0 = y at *
    repeat' (first | refine zP ?_ | refine zA ?_ | (refine zM ?_; intro _ _) | refine zX ?_ | (refine zC ?_; intro _ _ _ _) | (refine zS ?_; intro _ _) | (apply Ws <;> intro hg))
    · have hx : x < l.length := by omega
      have hy : y < l.length := by omega
      refine WC.condP rfl (fun heq => ?_) (fun heq => ?_)
      · repeat' (first | refine zP ?_ | refine zA ?_ | (refine zM ?_; intro _ _) | refine zX ?_ | (refine zC ?_; intro _ _ _ _) | (refine zS ?_; intro _ _) | (apply Ws <;> intro hg))
        exact Ends.ret1 rfl ⟨n7, by omega, hH7.tail, by rw [hno hx hy (by omega)]⟩
      · repeat' (first | refine zP ?_ | refine zA ?_ | (refine zM ?_; intro _ _) | refine zX ?_ | (refine zC ?_; intro _ _ _ _) | (refine zS ?_; intro _ _) | (apply Ws <;> intro hg))
        refine Ends.loop (k + 1, n7) (by simp only; omega) (by repeat' (first | exact .nil | refine .cons rfl ?_)) rfl ⟨hk', by simp only; omega, ?_, hH7⟩
        simp only
        rw [hps, hp, decide_eq_false (show ¬ l.getD x 0 = l.getD y 0 from fun e => heq (by rw [e])), Bool.and_false]; rfl
    · refine Ends.loop (k + 1, n7) (by simp only; omega) (by repeat' (first | exact .nil | refine .cons rfl ?_)) rfl ⟨hk', by simp only; omega, ?_, hH7⟩
      simp only
      rw [hps, hp]
      by_cases hx : x < l.length
      · rw [decide_eq_false (show ¬ y < l.length by omega), Bool.and_false, Bool.false_and]; rfl
      · rw [decide_eq_false hx, Bool.false_and, Bool.false_and]; rfl
  · have hkN : k = N / 2 := by omega
    subst hkN
    repeat' (first | refine zP ?_ | refine zA ?_ | (refine zM ?_; intro _ _) | refine zX ?_ | (refine zC ?_; intro _ _ _ _) | (refine zS ?_; intro _ _) | (apply Ws <;> intro hg))
    exact Ends.ret1 rfl ⟨n6, by omega, hH6.tail, by rw [hp]⟩
end
end Go.Proofs.YtmgmkglmjmaipaaDoor.Ct

/- colour, drawWithoutLoops, Fewest, Colour. -/
namespace Go.Proofs.YtmgmkglmjmaipaaDoor.Ct
open Go Go.Abs Go.Mth
set_option linter.unusedVariables false
set_option linter.unusedSimpArgs false
/-- Proper colours below a number. -/
def colsOK (pt : Nat → Nat) (L V f : Nat) (l : List Nat) : Prop := l.length = V ∧ (∀ x ∈ l, x < f) ∧ ∀ k, k < L → l.getD (pt (2 * k)) 0 ≠ l.getD (pt (2 * k + 1)) 0
def loopy (pt : Nat → Nat) (L : Nat) : Prop := ∃ k, k < L ∧ pt (2 * k) = pt (2 * k + 1)
def FewR (pt : Nat → Nat) (L V f : Nat) (l : List Nat) : Prop := colsOK pt L V f l ∧ (∀ l', colsOK pt L V f l' → ¬ lexP l' l) ∧ ∀ f', f' < f → ∀ l', ¬ colsOK pt L V f' l'
theorem properB_iff {A : List Nat} {k : Nat} {l : List Nat} : properB A k l = true ↔ ∀ j, j < k → A.getD (2 * j) 0 < l.length → A.getD (2 * j + 1) 0 < l.length → l.getD (A.getD (2 * j) 0) 0 ≠ l.getD (A.getD (2 * j + 1) 0) 0 := by
  unfold properB
  rw [List.all_eq_true]
  constructor
  · intro h j hj h1 h2 h3
    have := h j (List.mem_range.2 hj)
    rw [decide_eq_true h1, decide_eq_true h2, decide_eq_true h3] at this
    cases this
  · intro h j hj
    have := h j (List.mem_range.1 hj)
    by_cases h1 : A.getD (2 * j) 0 < l.length
    · by_cases h2 : A.getD (2 * j + 1) 0 < l.length
      · rw [decide_eq_false (this h1 h2), Bool.and_false]; rfl
      · rw [decide_eq_false h2, Bool.and_false, Bool.false_and]; rfl
    · rw [decide_eq_false h1, Bool.false_and, Bool.false_and]; rfl
theorem okP_cols {A : List Nat} {L V f : Nat} {l : List Nat} (hpt : ∀ e, e < 2 * L → A.getD e 0 < V) (hl : l.length = V) : okP (properB A L) f l ↔ colsOK (fun e => A.getD e 0) L V f l := by
  constructor
  · intro h
    refine ⟨hl, fun x hx => ?_, fun k hk => ?_⟩
    · obtain ⟨j, hj, rfl⟩ := List.mem_iff_getElem.1 hx
      have := (h j hj).1
      rwa [getD_eq hj] at this
    · have h1 := hpt (2 * k) (by omega)
      have h2 := hpt (2 * k + 1) (by omega)
      have h3 := (h (V - 1) (by omega)).2
      rw [show V - 1 + 1 = V by omega, ← hl, List.take_length] at h3
      exact properB_iff.1 h3 k hk (by omega) (by omega)
  · rintro ⟨_, h1, h2⟩ j hj
    refine ⟨h1 _ (getD_mem hj), properB_iff.2 fun k hk g1 g2 => ?_⟩
    rw [List.length_take] at g1 g2
    rw [getD_take (by omega), getD_take (by omega)]
    exact h2 k hk
theorem cols_id {pt : Nat → Nat} {L V : Nat} (hpt : ∀ e, e < 2 * L → pt e < V) (hno : ¬ loopy pt L) : colsOK pt L V V (List.range V) := by
  refine ⟨by simp, fun x hx => List.mem_range.1 hx, fun k hk e => hno ⟨k, hk, ?_⟩⟩
  have h1 := hpt (2 * k) (by omega)
  have h2 := hpt (2 * k + 1) (by omega)
  rw [getD_eq (by simpa using h1), getD_eq (by simpa using h2), List.getElem_range, List.getElem_range] at e
  exact e
theorem first_cols {A : List Nat} {L V f : Nat} {l : List Nat} (hpt : ∀ e, e < 2 * L → A.getD e 0 < V) (h : FirstR (properB A L) f V l) : colsOK (fun e => A.getD e 0) L V f l ∧ ∀ l', colsOK (fun e => A.getD e 0) L V f l' → ¬ lexP l' l :=
  ⟨(okP_cols hpt h.1).1 h.2.1, fun l' hl' => h.2.2 l' hl'.1 ((okP_cols hpt hl'.1).2 hl')⟩
attribute [local irreducible] gOK WS WC WR WD Ends FS YS OpV seqK blockK loopK midK retK rdK asgK rangeEnd sat Cell
section
variable {M : HL} {n0 : Nat} {H : Heap} {v w : Value}
set_option maxHeartbeats 2000000 in
theorem colour_fs (hH : hasH M n0 H) {V N : Nat} {A F B : List Nat} (hA : A.length = 16) (hF : F.length = 16) (hB : B.length = 16) (hN : N ≤ 16) (he : N % 2 = 0) (hV : V ≤ 16) (hpt : ∀ e, e < N → A.getD e 0 < V) (hno : ¬ loopy (fun e => A.getD e 0) (N / 2)) :
    FS C 82 [.agg (nodes (dw V N A F B)).toArray] H (fun e H' => ∃ n' b f l, n0 ≤ n' ∧ n0 ≤ b ∧ f ≤ V ∧ FewR (fun e => A.getD e 0) (N / 2) V f l ∧ hasH ((b, .row 3 0 0 (nodes l)) :: M) n' H' ∧ e = .tuple #[.int .i64 (f : Int), slB b V]) := by
  have hd1 := nodes_one' (dw V N A F B)
  have hdl := dw_len (V := V) (c := N) hA hF hB
  have hN0 : (dw V N A F B).getD 0 0 = V := rfl
  have hpt2 : ∀ e, e < 2 * (N / 2) → A.getD e 0 < V := fun e h => hpt e (by omega)
  refine FS.intro (pf := pf82) rfl rfl rfl ?_
  repeat' (first | refine zP ?_ | refine zA ?_ | (refine zM ?_; intro _ _) | refine zX ?_ | (refine zC ?_; intro _ _ _ _) | (refine zS ?_; intro _ _) | (apply Ws <;> intro hg))
  rename_i H1 hH1
  refine WC.loopX [(1, .pointer (some ⟨n0, 0, some 0⟩))] (fun a : Nat × Nat => [(4, .int .i64 (a.1 : Int))]) []
    (fun a H' => a.1 ≤ V ∧ n0 ≤ a.2 ∧ (∀ f', f' < a.1 → ∀ l', ¬ colsOK (fun e => A.getD e 0) (N / 2) V f' l') ∧ hasH ((n0, .row 77 0 0 (nodes (dw V N A F B))) :: M) a.2 H') (fun a => V - a.1) (0, n0 + 1) (by repeat' (first | exact .nil | refine .cons rfl ?_)) rfl
    ⟨Nat.zero_le _, by simp only; omega, fun f' h => absurd h (Nat.not_lt_zero _), hH1⟩ ?_
  clear hH hH1
  rintro ⟨f, n1⟩ H2 ⟨hf, hn1, hnone, hH2⟩
  simp only at hf hn1 hnone hH2
  dsimp only [List.cons_append, List.nil_append]
  repeat' (first | refine zP ?_ | refine zA ?_ | (refine zM ?_; intro _ _) | refine zX ?_ | (refine zC ?_; intro _ _ _ _) | (refine zS ?_; intro _ _) | (apply Ws <;> intro hg))
  refine WR.op (by first | exact gN | exact gS rfl) rfl (OpV.loadAll rfl hH2 (.head _) (.row _ _ _ _) (by simp [hdl])) ?_
  repeat' (first | refine zP ?_ | refine zA ?_ | (refine zM ?_; intro _ _) | refine zX ?_ | (refine zC ?_; intro _ _ _ _) | (refine zS ?_; intro _ _) | (apply Ws <;> intro hg))
  refine WR.call (by first | exact gN | exact gS rfl) rfl rfl (first_fs (n := V) (bound := f) (g := 79) (va := [.agg (nodes (dw V N A F B)).toArray]) (vb := []) (fits := properB A (N / 2)) hH2 (by omega) (by omega) (fun {X n' H' s l} hM hX hs hne hl => ?_)) ?_
  · exact properF_fs hX hA hF hB hN hs (by omega) fun j hj => by have := hpt j hj; omega
  rintro _ H3 ⟨n3, b, hn3, hb3, ⟨l, hl, hH3, rfl⟩ | ⟨hl, hH3, rfl⟩⟩
  · repeat' (first | refine zP ?_ | refine zA ?_ | (refine zM ?_; intro _ _) | refine zX ?_ | (refine zC ?_; intro _ _ _ _) | (refine zS ?_; intro _ _) | (apply Ws <;> intro hg))
    obtain ⟨h1, h2⟩ := first_cols hpt2 hl
    exact Ends.ret2 rfl rfl ⟨n3, b, f, l, by omega, by omega, hf, ⟨h1, h2, hnone⟩, hH3.sub (.cons_cons _ (List.sublist_cons_self _ _)), rfl⟩
  · have hfV : f ≠ V := by
      intro e
      subst e
      have h1 := cols_id hpt2 hno
      exact hl _ h1.1 ((okP_cols hpt2 h1.1).2 h1)
    repeat' (first | refine zP ?_ | refine zA ?_ | (refine zM ?_; intro _ _) | refine zX ?_ | (refine zC ?_; intro _ _ _ _) | (refine zS ?_; intro _ _) | (apply Ws <;> intro hg))
    refine Ends.loop (f + 1, n3) (by simp only; omega) (by repeat' (first | exact .nil | refine .cons rfl ?_)) rfl ⟨by simp only; omega, by simp only; omega, fun f' hf' l' hl' => ?_, hH3⟩
    by_cases e : f' = f
    · subst e
      exact hl _ hl'.1 ((okP_cols hpt2 hl'.1).2 hl')
    · exact hnone f' (by simp only at hf'; omega) l' hl'
/-- What drawing a map without loops comes to. -/
def DrawN (P : List (List Int)) (e : Value) : Prop := (errM P ≠ 0 ∧ e = .tuple #[.agg (nodes (List.replicate 50 0)).toArray, .int .i64 (errM P)]) ∨ ∃ Q A F B, P = castP Q ∧ OKM Q ∧ DrawR Q A F B ∧
  ((loopy (fun e => A.getD e 0) (sizeL Q / 2) ∧ e = .tuple #[.agg (nodes (List.replicate 50 0)).toArray, .int .i64 12]) ∨ (¬ loopy (fun e => A.getD e 0) (sizeL Q / 2) ∧ e = .tuple #[.agg (nodes (dw Q.length (sizeL Q) A F B)).toArray, .int .i64 0]))
set_option maxHeartbeats 4000000 in
theorem drawN_fs (hH : hasH M n0 H) {P : List (List Int)} (hR : RowsI M v P) (hl : P.length ≤ 1000) (hr : ∀ i, i < P.length → (P.getD i []).length ≤ 1000) :
    FS C 81 [.agg [v].toArray] H (fun e H' => ∃ n', n0 ≤ n' ∧ hasH M n' H' ∧ DrawN P e) := by
  have hv : one v = true := hR.one_
  refine FS.intro (pf := pf81) rfl rfl rfl ?_
  repeat' (first | refine zP ?_ | refine zA ?_ | (refine zM ?_; intro _ _) | refine zX ?_ | (refine zC ?_; intro _ _ _ _) | (refine zS ?_; intro _ _) | (apply Ws <;> intro hg))
  rename_i H1 hH1 H2 hH2
  refine WR.call (by first | exact gN | exact gS rfl) rfl rfl (draw_fs hH2 hR.cons.cons hl hr) ?_
  rintro _ H3 ⟨n3, hn3, hH3, ⟨h0, rfl⟩ | ⟨Q, A, F, B, rfl, hQ, hD, rfl⟩⟩
  · repeat' (first | refine zP ?_ | refine zA ?_ | (refine zM ?_; intro _ _) | refine zX ?_ | (refine zC ?_; intro _ _ _ _) | (refine zS ?_; intro _ _) | (apply Ws <;> intro hg))
    rename_i H4 hH4
    refine WR.storeAll (by first | exact gN | exact gS rfl) hH4 rfl rfl (ls := nodes (List.replicate 50 0)) (by simp [Value.cells]) rfl .here (nodes_one' _) rfl fun H5 hH5 => ?_
    repeat' (first | refine zP ?_ | refine zA ?_ | (refine zM ?_; intro _ _) | refine zX ?_ | (refine zC ?_; intro _ _ _ _) | (refine zS ?_; intro _ _) | refine zO ?_ | (apply Ws <;> intro hg))
    refine WR.op (by first | exact gN | exact gS rfl) rfl (OpV.bldT (vs := []) rfl (cs := (nodes (List.replicate 50 0)).toArray) (by rfl)) ?_
    repeat' (first | refine zP ?_ | refine zA ?_ | (refine zM ?_; intro _ _) | refine zX ?_ | (refine zC ?_; intro _ _ _ _) | (refine zS ?_; intro _ _) | (apply Ws <;> intro hg))
    refine WR.storeAll (by first | exact gN | exact gS rfl) hH5 rfl rfl (ls := nodes (List.replicate 50 0)) (by simp [Value.cells]) rfl (.there .here) (nodes_one' _) rfl fun H6 hH6 => ?_
    repeat' (first | refine zP ?_ | refine zA ?_ | (refine zM ?_; intro _ _) | refine zX ?_ | (refine zC ?_; intro _ _ _ _) | (refine zS ?_; intro _ _) | (apply Ws <;> intro hg))
    exact Ends.retCN1 rfl (readAll hH6 (.tail _ (.head _)) rfl) rfl ⟨n3 + 1, by omega, hH6.tail.tail.tail, .inl ⟨h0, rfl⟩⟩
  · have hle := hQ.le
    have hdl := dw_len (V := Q.length) (c := sizeL Q) hD.hA hD.hF hD.hB
    repeat' (first | refine zP ?_ | refine zA ?_ | (refine zM ?_; intro _ _) | refine zX ?_ | (refine zC ?_; intro _ _ _ _) | (refine zS ?_; intro _ _) | (apply Ws <;> intro hg))
    rename_i H4 hH4
    refine WR.storeAll (by first | exact gN | exact gS rfl) hH4 rfl rfl (ls := nodes (dw Q.length (sizeL Q) A F B)) (by simp [Value.cells]) (by simp [hdl]) .here (nodes_one' _) (by simp [hdl]) fun H5 hH5 => ?_
    clear hH hH1 hH2 hH3 hH4
    replace hH5 : hasH ((n3, .row 77 0 0 (nodes (dw Q.length (sizeL Q) A F B))) :: (n0 + 1, .row 77 0 0 (nodes (List.replicate 50 0))) :: M) (n3 + 1) H5 := hH5.sub (.cons_cons _ (.cons_cons _ (List.sublist_cons_self _ _)))
    repeat' (first | refine zP ?_ | refine zA ?_ | (refine zM ?_; intro _ _) | refine zX ?_ | (refine zC ?_; intro _ _ _ _) | (refine zS ?_; intro _ _) | refine zO ?_ | (apply Ws <;> intro hg))
    refine WR.op (by first | exact gN | exact gS rfl) rfl (OpV.loadAll rfl hH5 (.head _) (.row _ _ _ _) (by simp [hdl])) ?_
    refine WR.call (by first | exact gN | exact gS rfl) rfl rfl (lines_fs hH5 hD.hA hD.hF hD.hB hle) ?_
    rintro _ H6 ⟨n6, hn6, hH6, rfl⟩
    clear hH5
    repeat' (first | refine zP ?_ | refine zA ?_ | (refine zM ?_; intro _ _) | refine zX ?_ | (refine zC ?_; intro _ _ _ _) | (refine zS ?_; intro _ _) | (apply Ws <;> intro hg))
    refine WC.loopX [(2, .pointer (some ⟨n0 + 1, 0, some 0⟩)), (4, .pointer (some ⟨n3, 0, some 0⟩)), (19, .int .i64 ((sizeL Q / 2 : Nat) : Int))] (fun a : Nat × Nat => [(20, .int .i64 (a.1 : Int))]) []
      (fun a H' => a.1 ≤ sizeL Q / 2 ∧ n3 ≤ a.2 ∧ (∀ k, k < a.1 → A.getD (2 * k) 0 ≠ A.getD (2 * k + 1) 0) ∧ hasH ((n3, .row 77 0 0 (nodes (dw Q.length (sizeL Q) A F B))) :: (n0 + 1, .row 77 0 0 (nodes (List.replicate 50 0))) :: M) a.2 H') (fun a => sizeL Q / 2 - a.1) (0, n6) (by repeat' (first | exact .nil | refine .cons rfl ?_)) rfl
      ⟨Nat.zero_le _, by simp only; omega, fun k h => absurd h (Nat.not_lt_zero _), hH6⟩ ?_
    clear hH6
    rintro ⟨k, n7⟩ H7 ⟨hk, hn7, hno, hH7⟩
    simp only at hk hn7 hno hH7
    dsimp only [List.cons_append, List.nil_append]
    repeat' (first | refine zP ?_ | refine zA ?_ | (refine zM ?_; intro _ _) | refine zX ?_ | (refine zC ?_; intro _ _ _ _) | (refine zS ?_; intro _ _) | (apply Ws <;> intro hg))
    refine WC.condP rfl (fun hlt => ?_) (fun hlt => ?_)
    · have hk' : k < sizeL Q / 2 := by omega
      repeat' (first | refine zP ?_ | refine zA ?_ | (refine zM ?_; intro _ _) | refine zX ?_ | (refine zC ?_; intro _ _ _ _) | (refine zS ?_; intro _ _) | (apply Ws <;> intro hg))
      refine WR.op (by first | exact gN | exact gS rfl) rfl (OpV.loadAll rfl hH7 (.head _) (.row _ _ _ _) (by simp [hdl])) ?_
      repeat' (first | refine zP ?_ | refine zA ?_ | (refine zM ?_; intro _ _) | refine zX ?_ | (refine zC ?_; intro _ _ _ _) | (refine zS ?_; intro _ _) | (apply Ws <;> intro hg))
      refine WR.call (by first | exact gN | exact gS rfl) rfl rfl (line_fs hH7 hD.hA hD.hF hD.hB (by omega)) ?_
      rintro _ H8 ⟨n8, hn8, hH8, rfl⟩
      clear hH7
      repeat' (first | refine zP ?_ | refine zA ?_ | (refine zM ?_; intro _ _) | refine zX ?_ | (refine zC ?_; intro _ _ _ _) | (refine zS ?_; intro _ _) | (apply Ws <;> intro hg))
      refine WC.condP rfl (fun heq => ?_) (fun heq => ?_)
      · repeat' (first | refine zP ?_ | refine zA ?_ | (refine zM ?_; intro _ _) | refine zX ?_ | (refine zC ?_; intro _ _ _ _) | (refine zS ?_; intro _ _) | (apply Ws <;> intro hg))
        refine WR.op (by first | exact gN | exact gS rfl) rfl (OpV.bldT (vs := []) rfl (cs := (nodes (List.replicate 50 0)).toArray) (by rfl)) ?_
        repeat' (first | refine zP ?_ | refine zA ?_ | (refine zM ?_; intro _ _) | refine zX ?_ | (refine zC ?_; intro _ _ _ _) | (refine zS ?_; intro _ _) | (apply Ws <;> intro hg))
        refine WR.storeAll (by first | exact gN | exact gS rfl) hH8 rfl rfl (ls := nodes (List.replicate 50 0)) (by simp [Value.cells]) rfl (.there .here) (nodes_one' _) rfl fun H9 hH9 => ?_
        repeat' (first | refine zP ?_ | refine zA ?_ | (refine zM ?_; intro _ _) | refine zX ?_ | (refine zC ?_; intro _ _ _ _) | (refine zS ?_; intro _ _) | (apply Ws <;> intro hg))
        exact Ends.retCN1 rfl (readAll hH9 (.tail _ (.head _)) rfl) rfl ⟨n8, by omega, hH9.tail.tail, .inr ⟨Q, A, F, B, rfl, hQ, hD, .inl ⟨⟨k, hk', by show A.getD (2 * k) 0 = A.getD (2 * k + 1) 0; omega⟩, rfl⟩⟩⟩
      · repeat' (first | refine zP ?_ | refine zA ?_ | (refine zM ?_; intro _ _) | refine zX ?_ | (refine zC ?_; intro _ _ _ _) | (refine zS ?_; intro _ _) | (apply Ws <;> intro hg))
        refine Ends.loop (k + 1, n8) (by simp only; omega) (by repeat' (first | exact .nil | refine .cons rfl ?_)) rfl ⟨hk', by simp only; omega, fun j hj => ?_, hH8⟩
        by_cases e : j = k
        · subst e; exact fun q => heq (by rw [q])
        · exact hno j (by simp only at hj; omega)
    · have hkN : k = sizeL Q / 2 := by omega
      repeat' (first | refine zP ?_ | refine zA ?_ | (refine zM ?_; intro _ _) | refine zX ?_ | (refine zC ?_; intro _ _ _ _) | (refine zS ?_; intro _ _) | (apply Ws <;> intro hg))
      refine WR.op (by first | exact gN | exact gS rfl) rfl (OpV.loadAll rfl hH7 (.head _) (.row _ _ _ _) (by simp [hdl])) ?_
      refine WR.storeAll (by first | exact gN | exact gS rfl) hH7 rfl rfl (ls := nodes (dw Q.length (sizeL Q) A F B)) (by simp [Value.cells]) (by simp [hdl]) (.there .here) (nodes_one' _) (by simp [hdl]) fun H9 hH9 => ?_
      repeat' (first | refine zP ?_ | refine zA ?_ | (refine zM ?_; intro _ _) | refine zX ?_ | (refine zC ?_; intro _ _ _ _) | (refine zS ?_; intro _ _) | (apply Ws <;> intro hg))
      exact Ends.retCN1 rfl (readAll hH9 (.tail _ (.head _)) (by simp [hdl])) rfl ⟨n7, by omega, hH9.tail.tail, .inr ⟨Q, A, F, B, rfl, hQ, hD, .inr ⟨fun ⟨j, hj, e⟩ => hno j (by omega) e, rfl⟩⟩⟩
/-- The fewest colours, or the error. -/
def FewV (P : List (List Int)) (M : HL) (n0 : Nat) (res : Nat → List Nat → Value → Prop) (z : Value) (e : Value) : Prop :=
  (errM P ≠ 0 ∧ e = .tuple #[z, .int .i64 (errM P)]) ∨ ∃ Q pt, P = castP Q ∧ OKM Q ∧ PtOf Q pt ∧
    ((loopy pt (sizeL Q / 2) ∧ e = .tuple #[z, .int .i64 12]) ∨ (¬ loopy pt (sizeL Q / 2) ∧ ∃ f l u, f ≤ Q.length ∧ FewR pt (sizeL Q / 2) Q.length f l ∧ res f l u ∧ e = .tuple #[u, .int .i64 0]))
set_option maxHeartbeats 2000000 in
theorem Fewest_fs (hH : hasH M n0 H) {P : List (List Int)} (hR : RowsI M v P) (hl : P.length ≤ 1000) (hr : ∀ i, i < P.length → (P.getD i []).length ≤ 1000) :
    FS C 36 [.agg [v].toArray] H (fun e H' => ∃ n', n0 ≤ n' ∧ hasH M n' H' ∧ FewV P M n0 (fun f _ u => u = .int .i64 (f : Int)) (.int .i64 0) e) := by
  have hv : one v = true := hR.one_
  refine FS.intro (pf := pf36) rfl rfl rfl ?_
  repeat' (first | refine zP ?_ | refine zA ?_ | (refine zM ?_; intro _ _) | refine zX ?_ | (refine zC ?_; intro _ _ _ _) | (refine zS ?_; intro _ _) | (apply Ws <;> intro hg))
  rename_i H1 hH1
  refine WR.call (by first | exact gN | exact gS rfl) rfl rfl (drawN_fs hH1 hR.cons hl hr) ?_
  rintro _ H3 ⟨n3, hn3, hH3, ⟨h0, rfl⟩ | ⟨Q, A, F, B, rfl, hQ, hD, ⟨hlo, rfl⟩ | ⟨hno, rfl⟩⟩⟩
  · repeat' (first | refine zP ?_ | refine zA ?_ | (refine zM ?_; intro _ _) | refine zX ?_ | (refine zC ?_; intro _ _ _ _) | (refine zS ?_; intro _ _) | (apply Ws <;> intro hg))
    rename_i H4 hH4
    refine WR.storeAll (by first | exact gN | exact gS rfl) hH4 rfl rfl (ls := nodes (List.replicate 50 0)) (by simp [Value.cells]) rfl .here (nodes_one' _) rfl fun H5 hH5 => ?_
    repeat' (first | refine zP ?_ | refine zA ?_ | (refine zM ?_; intro _ _) | refine zX ?_ | (refine zC ?_; intro _ _ _ _) | (refine zS ?_; intro _ _) | refine zO ?_ | (apply Ws <;> intro hg))
    exact Ends.ret2 rfl rfl ⟨n3 + 1, by omega, hH5.tail.tail, .inl ⟨h0, rfl⟩⟩
  · repeat' (first | refine zP ?_ | refine zA ?_ | (refine zM ?_; intro _ _) | refine zX ?_ | (refine zC ?_; intro _ _ _ _) | (refine zS ?_; intro _ _) | (apply Ws <;> intro hg))
    rename_i H4 hH4
    refine WR.storeAll (by first | exact gN | exact gS rfl) hH4 rfl rfl (ls := nodes (List.replicate 50 0)) (by simp [Value.cells]) rfl .here (nodes_one' _) rfl fun H5 hH5 => ?_
    repeat' (first | refine zP ?_ | refine zA ?_ | (refine zM ?_; intro _ _) | refine zX ?_ | (refine zC ?_; intro _ _ _ _) | (refine zS ?_; intro _ _) | refine zO ?_ | (apply Ws <;> intro hg))
    exact Ends.ret2 rfl rfl ⟨n3 + 1, by omega, hH5.tail.tail, .inr ⟨Q, _, rfl, hQ, hD.pt, .inl ⟨hlo, rfl⟩⟩⟩
  · have hle := hQ.le
    have hlen := hQ.len
    have hdl := dw_len (V := Q.length) (c := sizeL Q) hD.hA hD.hF hD.hB
    repeat' (first | refine zP ?_ | refine zA ?_ | (refine zM ?_; intro _ _) | refine zX ?_ | (refine zC ?_; intro _ _ _ _) | (refine zS ?_; intro _ _) | (apply Ws <;> intro hg))
    rename_i H4 hH4
    refine WR.storeAll (by first | exact gN | exact gS rfl) hH4 rfl rfl (ls := nodes (dw Q.length (sizeL Q) A F B)) (by simp [Value.cells]) (by simp [hdl]) .here (nodes_one' _) (by simp [hdl]) fun H5 hH5 => ?_
    repeat' (first | refine zP ?_ | refine zA ?_ | (refine zM ?_; intro _ _) | refine zX ?_ | (refine zC ?_; intro _ _ _ _) | (refine zS ?_; intro _ _) | refine zO ?_ | (apply Ws <;> intro hg))
    refine WR.op (by first | exact gN | exact gS rfl) rfl (OpV.loadAll rfl hH5 (.head _) (.row _ _ _ _) (by simp [hdl])) ?_
    refine WR.call (by first | exact gN | exact gS rfl) rfl rfl (colour_fs hH5.tail.tail hD.hA hD.hF hD.hB hle hQ.even (by omega) (fun e he => hD.pt_lt he) hno) ?_
    rintro _ H6 ⟨n6, b, f, l, hn6, hb, hf, hF, hH6, rfl⟩
    repeat' (first | refine zP ?_ | refine zA ?_ | (refine zM ?_; intro _ _) | refine zX ?_ | (refine zC ?_; intro _ _ _ _) | (refine zS ?_; intro _ _) | (apply Ws <;> intro hg))
    exact Ends.ret2 rfl rfl ⟨n6, by omega, hH6.tail, .inr ⟨Q, _, rfl, hQ, hD.pt, .inr ⟨hno, f, l, _, hf, hF, rfl, rfl⟩⟩⟩
theorem slB_sl {b N : Nat} {l : List Nat} (h : l.length = N) (X : HL) : Sl ((b, Ch.row 3 0 0 (nodes l)) :: X) 1 (slB b N) (nodes l) :=
  .row (.head _) (.row _ _ _ _) (Nat.le_refl _) (by rw [Nat.mul_one]; simp [h]) (by rw [Nat.sub_self, List.drop_zero, List.take_of_length_le (by simp)]) (by simp) (.inr ⟨N, rfl, Nat.le_refl _⟩)
end
end Go.Proofs.YtmgmkglmjmaipaaDoor.Ct

/- The law's near and looped. -/
namespace Go.Proofs.YtmgmkglmjmaipaaDoor.Ct
open Go Go.Abs Go.Mth
set_option linter.unusedVariables false
set_option linter.unusedSimpArgs false
def maskTo (pt : Nat → Nat) (p : Nat) : Nat → Nat
  | 0 => 0
  | k + 1 => if pt k = p then maskTo pt p k ||| 2 ^ pt (oth k) else maskTo pt p k
theorem mask_bit {pt : Nat → Nat} {p q : Nat} : ∀ {k : Nat}, (maskTo pt p k).testBit q = true ↔ ∃ e, e < k ∧ pt e = p ∧ pt (oth e) = q
  | 0 => by simp [maskTo]
  | k + 1 => by
    unfold maskTo
    by_cases h : pt k = p
    · rw [if_pos h, Nat.testBit_or, Nat.testBit_two_pow, Bool.or_eq_true, decide_eq_true_iff, mask_bit]
      constructor
      · rintro (⟨e, he, h1⟩ | h1)
        · exact ⟨e, by omega, h1⟩
        · exact ⟨k, Nat.lt_succ_self _, h, h1⟩
      · rintro ⟨e, he, h1, h2⟩
        by_cases e1 : e = k
        · subst e1; exact .inr h2
        · exact .inl ⟨e, by omega, h1, h2⟩
    · rw [if_neg h, mask_bit]
      constructor
      · rintro ⟨e, he, h1⟩
        exact ⟨e, by omega, h1⟩
      · rintro ⟨e, he, h1, h2⟩
        by_cases e1 : e = k
        · subst e1; exact absurd h1 h
        · exact ⟨e, by omega, h1, h2⟩
theorem mask_lt {pt : Nat → Nat} {p V N : Nat} (hV : ∀ e, e < N → pt (oth e) < V) : ∀ {k : Nat}, k ≤ N → maskTo pt p k < 2 ^ V
  | 0, _ => Nat.pow_pos (by decide)
  | k + 1, hk => by
    unfold maskTo
    split
    · exact Nat.or_lt_two_pow (mask_lt hV (by omega)) (Nat.pow_lt_pow_right (by decide) (hV k (by omega)))
    · exact mask_lt hV (by omega)
def nearTo (pt : Nat → Nat) (V k : Nat) : List Nat := (List.range V).map fun p => maskTo pt p k
theorem near_len (pt : Nat → Nat) (V k : Nat) : (nearTo pt V k).length = V := by simp [nearTo]
theorem near_get {pt : Nat → Nat} {V k p : Nat} (h : p < V) : (nearTo pt V k).getD p 0 = maskTo pt p k := by
  rw [getD_eq (by rw [near_len]; exact h)]; simp [nearTo]
theorem near_succ {pt : Nat → Nat} {V k : Nat} (h : pt k < V) : (nearTo pt V k).set (pt k) ((nearTo pt V k).getD (pt k) 0 ||| 2 ^ pt (oth k)) = nearTo pt V (k + 1) := by
  refine ext_getD (a := 0) (by simp [nearTo]) fun i hi => ?_
  have hi' : i < V := by simpa [nearTo] using hi
  rw [getD_set' (by rw [near_len]; exact h), near_get h, near_get hi', near_get hi', maskTo]
  by_cases e : i = pt k
  · rw [if_pos e, if_pos e.symm, e]
  · rw [if_neg e, if_neg (fun q => e q.symm)]
attribute [local irreducible] gOK WS WC WR WD Ends FS YS OpV seqK blockK loopK midK retK rdK asgK rangeEnd sat Cell
section
variable {M : HL} {n0 : Nat} {H : Heap} {v w : Value}
set_option maxHeartbeats 2000000 in
theorem near_fs (hH : hasH M n0 H) {Q : List (List Nat)} (hQ : OKM Q) (hR : RowsI M v (castP Q)) :
    FS C 55 [.agg [v].toArray] H (fun e H' => ∃ b n' pt, n0 ≤ b ∧ n0 ≤ n' ∧ PtOf Q pt ∧ (∀ e, e < sizeL Q → pt e < Q.length) ∧ hasH ((b, .row 69 0 0 (numsK .u32 (nearTo pt Q.length (sizeL Q)))) :: M) n' H' ∧ e = slB b Q.length) := by
  have hv := hR.one_
  have hle := hQ.le
  have hlen := hQ.len
  have hev := hQ.even
  obtain ⟨ws, hS, hRw⟩ := rowsI_nat hR
  have hwl := hRw.1
  refine FS.intro (pf := pf55) rfl rfl rfl ?_
  repeat' (first | refine zP ?_ | refine zA ?_ | (refine zM ?_; intro _ _) | refine zX ?_ | (refine zC ?_; intro _ _ _ _) | (refine zS ?_; intro _ _) | (apply Ws <;> intro hg))
  rename_i H1 hH1
  refine WR.call (by first | exact gN | exact gS rfl) rfl rfl (after_fs hH1 hQ hR.cons) ?_
  rintro _ H2 ⟨b, n2, X, A, hb, hn2, hA, hH2, rfl⟩
  clear hH hH1
  repeat' (first | refine zP ?_ | refine zA ?_ | (refine zM ?_; intro _ _) | refine zX ?_ | (refine zC ?_; intro _ _ _ _) | (refine zS ?_; intro _ _) | (apply Ws <;> intro hg))
  refine WR.op (by first | exact gN | exact gS rfl) rfl (OpV.lenS (M := M) rfl hS) ?_
  rw [hwl]
  refine WR.mkS (by first | exact gN | exact gS rfl) rfl hH2 rfl rfl (by omega) rfl fun H3 hH3 => ?_
  clear hH2
  have hAl := hA.hA
  obtain ⟨V, hV⟩ : ∃ V, V = Q.length := ⟨_, rfl⟩
  have hlt := hA.lt
  rw [← hV] at hlt ⊢
  generalize hNN : sizeL Q = N at *
  replace hH3 : hasH ((n2, .row 69 0 0 (numsK .u32 (nearTo (fun e => A.getD e 0) V 0))) :: (b + 1, .row 3 0 0 (nodes A)) :: M) (n2 + 1) H3 := by
    have e0 : nearTo (fun e => A.getD e 0) V 0 = List.replicate V 0 := by
      refine ext_getD (a := 0) (by simp [nearTo]) fun i hi => ?_
      have hi' : i < V := by simpa [nearTo] using hi
      rw [near_get hi', getD_eq (by simpa using hi')]; simp [maskTo]
    rw [e0]
    have e1 : numsK .u32 (List.replicate V 0) = List.replicate V (Value.int .u32 0) := by simp [numsK]
    rw [e1, hV]
    exact hH3.sub (.cons_cons _ (.cons_cons _ (.cons _ (.cons _ (List.Sublist.refl _)))))
  repeat' (first | refine zP ?_ | refine zA ?_ | (refine zM ?_; intro _ _) | refine zX ?_ | (refine zC ?_; intro _ _ _ _) | (refine zS ?_; intro _ _) | (apply Ws <;> intro hg))
  refine WC.loopX [(4, slN (b + 1) N), (5, slB n2 V), (17, slN (b + 1) N), (18, .int .i64 (N : Int))] (fun k : Nat => [(19, .int .i64 (k : Int))]) []
    (fun k H' => k ≤ N ∧ hasH ((n2, .row 69 0 0 (numsK .u32 (nearTo (fun e => A.getD e 0) V k))) :: (b + 1, .row 3 0 0 (nodes A)) :: M) (n2 + 1) H') (fun k => N - k) 0 (by repeat' (first | exact .nil | refine .cons rfl ?_)) rfl
    ⟨Nat.zero_le _, hH3⟩ ?_
  clear hH3
  rintro k H4 ⟨hk, hH4⟩
  have hnl := near_len (fun e => A.getD e 0) V k
  dsimp only [List.cons_append, List.nil_append]
  repeat' (first | refine zP ?_ | refine zA ?_ | (refine zM ?_; intro _ _) | refine zX ?_ | (refine zC ?_; intro _ _ _ _) | (refine zS ?_; intro _ _) | (apply Ws <;> intro hg))
  refine WC.condP rfl (fun hlt2 => ?_) (fun hlt2 => ?_)
  · have hk' : k < N := by omega
    have hp := hlt k hk'
    have ho := oth_lt (L := N / 2) (e := k) (by omega)
    have hq := hlt (oth k) (by omega)
    have hmk := mask_lt (pt := fun e => A.getD e 0) (p := A.getD k 0) (V := V) (N := N) (fun e he => hlt (oth e) (by have := oth_lt (L := N / 2) (e := e) (by omega); omega)) (k := k) hk
    have hpow : 2 ^ V ≤ 65536 := Nat.pow_le_pow_right (n := 2) (by decide) (show V ≤ 16 by omega)
    have hng := near_get (pt := fun e => A.getD e 0) (V := V) (k := k) hp
    have hns := near_succ (pt := fun e => A.getD e 0) (V := V) (k := k) hp
    have hp2 : 2 ^ A.getD (oth k) 0 < 65536 * 2 := Nat.lt_of_lt_of_le (Nat.pow_lt_pow_right (by decide) hq) (by omega)
    repeat' (first | refine zP ?_ | refine zA ?_ | (refine zM ?_; intro _ _) | refine zX ?_ | (refine zC ?_; intro _ _ _ _) | (refine zS ?_; intro _ _) | (apply Ws <;> intro hg))
    refine WR.op (by first | exact gN | exact gS rfl) rfl (OpV.xorN (a := k) (b := 1) rfl rfl (by show k < 9223372036854775808; omega) (by decide)) ?_
    rw [xor_oth (by omega)]
    repeat' (first | refine zP ?_ | refine zA ?_ | (refine zM ?_; intro _ _) | refine zX ?_ | (refine zC ?_; intro _ _ _ _) | (refine zS ?_; intro _ _) | (apply Ws <;> intro hg))
    refine WR.op (by first | exact gN | exact gS rfl) rfl (OpV.shl1 rfl rfl (by show A.getD (oth k) 0 ≤ 32; omega) (by show 2 ^ A.getD (oth k) 0 < 4294967296; omega)) ?_
    refine WR.op (by first | exact gN | exact gS rfl) rfl (OpV.orN rfl rfl (by show (nearTo (fun e => A.getD e 0) V k).getD (A.getD k 0) 0 < 4294967296; omega) (by show 2 ^ A.getD (oth k) 0 < 4294967296; omega)) ?_
    repeat' (first | refine zP ?_ | refine zA ?_ | (refine zM ?_; intro _ _) | refine zX ?_ | (refine zC ?_; intro _ _ _ _) | (refine zS ?_; intro _ _) | (apply Ws <;> intro hg))
    rename_i H5 hH5
    rw [hns] at hH5
    exact Ends.loop (k + 1) (by omega) (by repeat' (first | exact .nil | refine .cons rfl ?_)) rfl ⟨hk', hH5⟩
  · have hkN : k = N := by omega
    subst hkN
    repeat' (first | refine zP ?_ | refine zA ?_ | (refine zM ?_; intro _ _) | refine zX ?_ | (refine zC ?_; intro _ _ _ _) | (refine zS ?_; intro _ _) | (apply Ws <;> intro hg))
    exact Ends.ret1 rfl ⟨n2, n2 + 1, _, by omega, by omega, hA.pt, fun e he => hlt e (by omega), hH4.sub (.cons_cons _ (List.sublist_cons_self _ _)), rfl⟩
theorem loopy_iff {pt : Nat → Nat} {N V : Nat} (he : N % 2 = 0) (hlt : ∀ e, e < N → pt e < V) : loopy pt (N / 2) ↔ ∃ p, p < V ∧ (maskTo pt p N).testBit p = true := by
  constructor
  · rintro ⟨k, hk, e⟩
    refine ⟨pt (2 * k), hlt _ (by omega), mask_bit.2 ⟨2 * k, by omega, rfl, ?_⟩⟩
    rw [oth_even, e]
  · rintro ⟨p, hp, hb⟩
    obtain ⟨e, he2, h1, h2⟩ := mask_bit.1 hb
    refine ⟨e / 2, by omega, ?_⟩
    have h3 : pt e = pt (oth e) := h1.trans h2.symm
    unfold oth at h3
    split at h3
    · rw [show 2 * (e / 2) = e by omega]; exact h3
    · rw [show 2 * (e / 2) = e - 1 by omega, show e - 1 + 1 = e by omega]; exact h3.symm
set_option maxHeartbeats 2000000 in
theorem looped_fs (hH : hasH M n0 H) {Q : List (List Nat)} (hQ : OKM Q) (hR : RowsI M v (castP Q)) :
    FS C 54 [.agg [v].toArray] H (fun e H' => ∃ n' pt, n0 ≤ n' ∧ hasH M n' H' ∧ PtOf Q pt ∧ (∀ e, e < sizeL Q → pt e < Q.length) ∧ ∃ bb, (bb = true ↔ loopy pt (sizeL Q / 2)) ∧ e = .bool bb) := by
  have hv := hR.one_
  have hle := hQ.le
  have hlen := hQ.len
  refine FS.intro (pf := pf54) rfl rfl rfl ?_
  repeat' (first | refine zP ?_ | refine zA ?_ | (refine zM ?_; intro _ _) | refine zX ?_ | (refine zC ?_; intro _ _ _ _) | (refine zS ?_; intro _ _) | (apply Ws <;> intro hg))
  rename_i H1 hH1
  refine WR.call (by first | exact gN | exact gS rfl) rfl rfl (near_fs hH1 hQ hR.cons) ?_
  rintro _ H2 ⟨b, n2, pt, hb, hn2, hpt, hlt, hH2, rfl⟩
  clear hH hH1
  have hnl := near_len pt Q.length (sizeL Q)
  repeat' (first | refine zP ?_ | refine zA ?_ | (refine zM ?_; intro _ _) | refine zX ?_ | (refine zC ?_; intro _ _ _ _) | (refine zS ?_; intro _ _) | (apply Ws <;> intro hg))
  refine WC.loopX [(6, slB b Q.length), (7, .int .i64 (Q.length : Int))] (fun k : Nat => [(8, .int .i64 (k : Int))]) []
    (fun k H' => k ≤ Q.length ∧ (∀ p, p < k → (maskTo pt p (sizeL Q)).testBit p = false) ∧ H' = H2) (fun k => Q.length - k) 0 (by repeat' (first | exact .nil | refine .cons rfl ?_)) rfl
    ⟨Nat.zero_le _, fun p h => absurd h (Nat.not_lt_zero _), rfl⟩ ?_
  rintro k _ ⟨hk, hno, rfl⟩
  dsimp only [List.cons_append, List.nil_append]
  repeat' (first | refine zP ?_ | refine zA ?_ | (refine zM ?_; intro _ _) | refine zX ?_ | (refine zC ?_; intro _ _ _ _) | (refine zS ?_; intro _ _) | (apply Ws <;> intro hg))
  refine WC.condP rfl (fun hlt2 => ?_) (fun hlt2 => ?_)
  · have hk' : k < Q.length := by omega
    have hng := near_get (pt := pt) (V := Q.length) (k := sizeL Q) hk'
    have hmk := mask_lt (pt := pt) (p := k) (V := Q.length) (N := sizeL Q) (fun e he => hlt (oth e) (by have := oth_lt (L := sizeL Q / 2) (e := e) (by have := hQ.even; omega); have := hQ.even; omega)) (k := sizeL Q) (Nat.le_refl _)
    have hpow : 2 ^ Q.length ≤ 65536 := Nat.pow_le_pow_right (n := 2) (by decide) (show Q.length ≤ 16 by omega)
    repeat' (first | refine zP ?_ | refine zA ?_ | (refine zM ?_; intro _ _) | refine zX ?_ | (refine zC ?_; intro _ _ _ _) | (refine zS ?_; intro _ _) | (apply Ws <;> intro hg))
    rw [hng]
    refine WR.op (by first | exact gN | exact gS rfl) rfl (OpV.shrN rfl rfl (by show k ≤ 32; omega)) ?_
    refine WR.op (by first | exact gN | exact gS rfl) rfl (OpV.andN (a := maskTo pt k (sizeL Q) >>> k) (b := 1) rfl rfl (by show maskTo pt k (sizeL Q) >>> k < 4294967296; have := Nat.shiftRight_le (maskTo pt k (sizeL Q)) k; omega) (by decide)) ?_
    repeat' (first | refine zP ?_ | refine zA ?_ | (refine zM ?_; intro _ _) | refine zX ?_ | (refine zC ?_; intro _ _ _ _) | (refine zS ?_; intro _ _) | (apply Ws <;> intro hg))
    refine WC.condP rfl (fun hbit => ?_) (fun hbit => ?_)
    · repeat' (first | refine zP ?_ | refine zA ?_ | (refine zM ?_; intro _ _) | refine zX ?_ | (refine zC ?_; intro _ _ _ _) | (refine zS ?_; intro _ _) | (apply Ws <;> intro hg))
      exact Ends.ret1 rfl ⟨n2, pt, by omega, hH2.tail.tail, hpt, hlt, true, ⟨fun _ => (loopy_iff hQ.even hlt).2 ⟨k, hk', shr_and_one.1 hbit⟩, fun _ => rfl⟩, rfl⟩
    · repeat' (first | refine zP ?_ | refine zA ?_ | (refine zM ?_; intro _ _) | refine zX ?_ | (refine zC ?_; intro _ _ _ _) | (refine zS ?_; intro _ _) | (apply Ws <;> intro hg))
      refine Ends.loop (k + 1) (by omega) (by repeat' (first | exact .nil | refine .cons rfl ?_)) rfl ⟨hk', fun p hp => ?_, rfl⟩
      by_cases e : p = k
      · subst e
        cases hq : (maskTo pt p (sizeL Q)).testBit p with
        | false => rfl
        | true => exact absurd (shr_and_one.2 hq) hbit
      · exact hno p (by omega)
  · have hkN : k = Q.length := by omega
    subst hkN
    repeat' (first | refine zP ?_ | refine zA ?_ | (refine zM ?_; intro _ _) | refine zX ?_ | (refine zC ?_; intro _ _ _ _) | (refine zS ?_; intro _ _) | (apply Ws <;> intro hg))
    refine Ends.ret1 rfl ⟨n2, pt, by omega, hH2.tail.tail, hpt, hlt, false, ⟨fun h => (by cases h), fun h => ?_⟩, rfl⟩
    exfalso
    obtain ⟨p, hp, hb⟩ := (loopy_iff hQ.even hlt).1 h
    rw [hno p hp] at hb; cases hb
end
end Go.Proofs.YtmgmkglmjmaipaaDoor.Ct

/- Maps told otherwise: the mathematics; Clone, Reverse. -/
namespace Go.Abs
set_option linter.unusedSectionVars false
set_option linter.unusedVariables false
open Go
section
variable [Globs] {C : CW} {nt : Nat} {L : Env} {D : List Nat} {H : Heap} {K : St → Prop} {M M' : HL} {n i d : Nat} {gd : Option (Tmp × Bool)} {lo' : List Nat} {l : List POp} {rs : List Rd}
/-- A slice that can be read, though it is empty. -/
def RdS (M : HL) (v : Value) : Prop := v = .slice none 0 0 ∨ ∃ (b u o lo len cap : Nat) (ch : Ch) (cs : List Value), v = .slice (some ⟨b, o, some u⟩) len cap ∧ (b, ch) ∈ M ∧ ch.cellsAre u lo cs ∧ lo ≤ o ∧ o - lo ≤ cs.length
theorem RdS.mono {M M' : HL} {v : Value} (h : RdS M v) (k : ∀ q ∈ M, q ∈ M') : RdS M' v := by
  rcases h with h | ⟨b, u, o, lo, len, cap, ch, cs, h1, h2, h3⟩
  · exact .inl h
  · exact .inr ⟨b, u, o, lo, len, cap, ch, cs, h1, k _ h2, h3⟩
end
end Go.Abs
namespace Go.Proofs.YtmgmkglmjmaipaaDoor.Ct
open Go Go.Abs Go.Mth
set_option linter.unusedVariables false
set_option linter.unusedSimpArgs false
theorem PtOf.lt {f pt : Nat → Nat} {N : Nat} {Q : List (List Nat)} (h : CycS f N Q) (hp : PtOf Q pt) {x : Nat} (hx : x < N) : pt x < Q.length := by
  obtain ⟨l, hl, hm⟩ := h.all x hx
  obtain ⟨p, hp1, rfl⟩ := mem_getD hl
  rw [hp p hp1 x hm]; exact hp1
/-- A list from a place on. -/
def rotN (k : Nat) (l : List Nat) : List Nat := l.drop k ++ l.take k
/-- The map, its points in another order, told from other ends on. -/
def toldRow (Q : List (List Nat)) (t i : Nat) : List Nat := rotN (t % (Q.getD ((i + t) % Q.length) []).length) (Q.getD ((i + t) % Q.length) [])
def toldTo (Q : List (List Nat)) (t k : Nat) : List (List Nat) := (List.range k).map (toldRow Q t)
theorem OKM.small {Q : List (List Nat)} (h : OKM Q) : (castP Q).length ≤ 1000 ∧ ∀ i, i < (castP Q).length → ((castP Q).getD i []).length ≤ 1000 := by
  have h1 := h.len
  have h2 := h.le
  refine ⟨by rw [castP_len]; omega, fun i hi => ?_⟩
  rw [castP_len] at hi
  rw [castP_get, castL_len]
  have h3 := sizeTo_succ hi
  have h4 := sizeTo_le (P := Q) (j := i + 1) (k := Q.length) hi (Nat.le_refl _)
  rw [sizeTo_all] at h4; omega
theorem CycL.small {f : Nat → Nat} {N : Nat} {ls : List (List Nat)} (h : CycL f N ls) (hN : N ≤ 16) : (castP ls).length ≤ 100000 ∧ ∀ i, i < (castP ls).length → ((castP ls).getD i []).length ≤ 100000 := by
  have h1 := h.count
  have h2 := h.toS.len
  rw [size_flat] at h2
  refine ⟨by rw [castP_len]; omega, fun i hi => ?_⟩
  rw [castP_len] at hi
  rw [castP_get, castL_len]
  have h3 := sizeTo_succ hi
  have h4 := sizeTo_le (P := ls) (j := i + 1) (k := ls.length) hi (Nat.le_refl _)
  rw [sizeTo_all] at h4; omega
theorem FewV.ok {Q : List (List Nat)} {M : HL} {n0 : Nat} {res : Nat → List Nat → Value → Prop} {z e : Value} (h : FewV (castP Q) M n0 res z e) (hQ : OKM Q) :
    ∃ pt, PtOf Q pt ∧ ((loopy pt (sizeL Q / 2) ∧ e = .tuple #[z, .int .i64 12]) ∨ (¬ loopy pt (sizeL Q / 2) ∧ ∃ f l u, f ≤ Q.length ∧ FewR pt (sizeL Q / 2) Q.length f l ∧ res f l u ∧ e = .tuple #[u, .int .i64 0])) := by
  rcases h with ⟨h0, _⟩ | ⟨Q', pt, h1, h2, h3⟩
  · exact absurd (ok_err hQ) h0
  · obtain rfl := castP_inj h1
    exact ⟨pt, h3⟩
end Go.Proofs.YtmgmkglmjmaipaaDoor.Ct
