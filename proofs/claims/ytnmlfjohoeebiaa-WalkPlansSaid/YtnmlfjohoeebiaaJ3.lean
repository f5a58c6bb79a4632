/- Texts of the law, joined. -/
import Derived.Test.YtnmlfjohoeebiaaJ2
/- Slices joined. -/
namespace Go.Abs
set_option linter.unusedSectionVars false
set_option linter.unusedSimpArgs false
set_option linter.unusedVariables false
variable [Globs]
open Go
section
variable {C : CW} {nt : Nat} {L : Env} {D : List Nat} {H : Heap} {K : St → Prop} {M M' : HL} {n i d : Nat} {gd : Option (Tmp × Bool)} {lo' : List Nat} {l : List POp}
theorem OpV.capNil {x : Operand} {c k : Nat} (hx : ev L x = some (.slice none k c)) : OpV C (.cap x) L H (.int .i64 (c : Int)) H := fun t ht => by
  simp only [opA, ev_ok ht hx, oCap, goInt]
theorem OpV.cutNil {x hi : Operand} {c : Nat} {kd : IntKind} (hx : ev L x = some (.slice none 0 c)) (hh : ev L hi = some (.int kd 0)) : OpV C (.slS x 1 none (some hi) none) L H (.slice none 0 c) H := fun t ht => by
  simp only [opA, ev_ok ht hx, Option.map_none, Option.map_some, ev_ok ht hh, oSlS, sliceA, loOf, hiOf, natOf, Option.isSome_none, Bool.false_and, cond_false, capOf, sliceTo]
  rfl
theorem WR.appZ {e m : Nat} {z : Value} {s x : Operand} (hg : gOK L gd) (hd : Nat.blt d nt = true) (hs : ev L s = some (.slice none 0 0)) (hx : ev L x = some (.int .i64 (m : Int))) (hH : hasH M n H) (hm : 1 ≤ m) (hm2 : m ≤ 50000) (hz : one z = true)
    (kk : ∀ H', hasH ((n, .row e 0 0 (List.replicate m z)) :: M) (n + 1) H' → WR C nt l ((d, .slice (some ⟨n, 0, some 0⟩) m (2 * 1)) :: L) D H' K) : WR C nt (⟨i, some d, .appZ e 1 [z] s x, gd, lo'⟩ :: l) L D H K := by
  have hf : (List.replicate m [z]).flatten = List.replicate m z := by
    clear hx hm hm2 kk
    induction m with
    | zero => rfl
    | succ m ih => simp [List.replicate_succ, ih]
  refine WR.op hg hd (H' := H.row e (List.replicate m z)) (v := .slice (some ⟨n, 0, some 0⟩) m (2 * 1)) (fun t ht => ?_) (kk _ (hH.row e (by rw [List.all_eq_true]; intro q hq; rw [(List.mem_replicate.1 hq).2]; exact hz)))
  have b1 : Nat.ble 1 m = true := Nat.ble_eq_true_of_le hm
  have b2 : small 1 m = true := by unfold small; rw [Nat.ble_eq_true_of_le (show m ≤ 100000 by omega)]; rfl
  have hmi : ((m : Nat) : Int) = Int.ofNat m := rfl
  rw [hmi] at hx
  simp only [opA, ev_ok ht hs, ev_ok ht hx, oAppZ, b1, b2, Bool.and_self, cond_true, newAddr, hH.next, hf]
/-- Appended within the room. -/
theorem WR.appendRX {e : TypeId} {s x : Operand} {y : Value} {b u o len R k : Nat} {ys new : List Int} (hg : gOK L gd) (hd : Nat.blt d nt = true) (hs : ev L s = some (.slice (some ⟨b, o, some u⟩) len (roomCode 1 R))) (hx : ev L x = some y)
    (hk : srcLen y = some k) (hc : srcCells H 1 k y = some (new.map (Value.int .i64))) (hl : new.length = k)
    (hH : hasH M n H) (hu : Upd M b (.row e u o (ys.map (Value.int .i64))) (.row e u o ((ys.take len ++ new ++ ys.drop (len + k)).map (Value.int .i64))) M') (hlk : len + k ≤ R) (hly : len + k ≤ ys.length)
    (kk : ∀ H', hasH M' n H' → WR C nt l ((d, .slice (some ⟨b, o, some u⟩) (len + k) (roomCode 1 R)) :: L) D H' K) : WR C nt (⟨i, some d, .append e 1 s x, gd, lo'⟩ :: l) L D H K := by
  have hcs : (ys.take len ++ new ++ ys.drop (len + k)).map (Value.int .i64) = splice (ys.map (Value.int .i64)) (o + len - o) (new.map (Value.int .i64)) := by
    rw [show o + len - o = len by omega]
    unfold splice
    rw [List.length_map, hl]
    simp only [List.map_append, List.map_take, List.map_drop]
  obtain ⟨H', h5, h6⟩ := hH.writeN (l := new.map (Value.int .i64)) hu (by rw [List.all_eq_true]; intro q hq; obtain ⟨z, _, rfl⟩ := List.mem_map.1 hq; rfl) (Nat.le_add_right o len) (by simp; omega) hcs
  by_cases hk0 : k = 0
  · subst hk0
    have hn0 : new = [] := List.length_eq_zero_iff.1 hl
    subst hn0
    have hsame : ys.take len ++ [] ++ ys.drop (len + 0) = ys := by simp
    rw [hsame] at hu
    have hMM : M' = M := hu.same rfl
    subst hMM
    refine WR.op hg hd (v := .slice (some ⟨b, o, some u⟩) (len + 0) (roomCode 1 R)) (fun t ht => ?_) (kk H hH)
    simp only [opA, ev_ok ht hs, ev_ok ht hx, appendA, hk, Nat.zero_mul, hc, appWith, capOf_room _ (show 1 ≤ 1000 by decide), Nat.beq_refl, cond_true]
    rfl
  · refine WR.op hg hd (v := .slice (some ⟨b, o, some u⟩) (len + k) (roomCode 1 R)) (fun t ht => ?_) (kk H' h6)
    have hb : Nat.beq k 0 = false := by cases hb : Nat.beq k 0 with | false => rfl | true => exact absurd (Nat.eq_of_beq_eq_true hb) hk0
    have hb2 : Nat.ble (len + k) R = true := Nat.ble_eq_true_of_le hlk
    simp only [opA, ev_ok ht hs, ev_ok ht hx, appendA, hk, Nat.mul_one, hc, appWith, capOf_room _ (show 1 ≤ 1000 by decide), Nat.beq_refl, cond_true, hb, hb2, cond_false, appIn, Addr.plus, h5]
theorem src_of {y : Value} {xs : List Int} (hS : Sl M 1 y (xs.map (Value.int .i64))) (hr : xs = [] → RdS M y) (hH : hasH M n H) : srcLen y = some xs.length ∧ srcCells H 1 xs.length y = some (xs.map (Value.int .i64)) := by
  by_cases h0 : xs = []
  · subst h0
    rcases hr rfl with rfl | ⟨b, u, o, lo, len, cap, ch, cs, rfl, hm, hc, hlo, hin⟩
    · exact ⟨rfl, rfl⟩
    · have hlen : len = 0 := by
        generalize hw : Value.slice (some ⟨b, o, some u⟩) len cap = w at hS
        generalize hz : ([] : List Int).map (Value.int .i64) = z at hS
        cases hS with
        | nil c => cases hw
        | emp a => injection hw
        | row _ _ _ g1 =>
          injection hw with _ g2 _
          rw [← hz] at g1
          simp at g1
          omega
      subst hlen
      refine ⟨rfl, ?_⟩
      have := hH.readN (k := 0) hm hc hlo (by omega)
      simpa [srcCells] using this
  · obtain ⟨h1, h2⟩ := hS.src hH (fun h => h0 (List.map_eq_nil_iff.1 h))
    have h3 := h2 _ (Nat.le_refl _)
    rw [List.take_length, List.length_map] at h3
    rw [List.length_map] at h1
    exact ⟨h1, h3⟩
end
end Go.Abs
namespace Go.Proofs.Ytnmlfjohoeebiaa.Wk
open Go Go.Abs Go.Mth
set_option linter.unusedVariables false
set_option linter.unusedSimpArgs false
def lenS (Ls : List (List Int)) : Nat := (Ls.map List.length).sum
theorem lenS_snoc (Ls : List (List Int)) (l : List Int) : lenS (Ls ++ [l]) = lenS Ls + l.length := by simp [lenS]
theorem lenS_flat (Ls : List (List Int)) : Ls.flatten.length = lenS Ls := by simp [lenS, List.length_flatten]
theorem lenS_take (Ls : List (List Int)) (k : Nat) : lenS (Ls.take k) ≤ lenS Ls := by
  have h : lenS Ls = lenS (Ls.take k) + lenS (Ls.drop k) := by
    unfold lenS
    rw [← List.sum_append, ← List.map_append, List.take_append_drop]
  omega
structure PartsM (M : HL) (ws : List Value) (Ls : List (List Int)) : Prop where
  len : ws.length = Ls.length
  sl : ∀ i, i < Ls.length → Sl M 1 (ws.getD i undef) (ints (Ls.getD i []))
  rd : ∀ i, i < Ls.length → Ls.getD i [] = [] → RdS M (ws.getD i undef)
theorem PartsM.mono {M M' : HL} {ws : List Value} {Ls : List (List Int)} (h : PartsM M ws Ls) (k : ∀ q ∈ M, q ∈ M') : PartsM M' ws Ls := ⟨h.len, fun i hi => (h.sl i hi).mono k, fun i hi h0 => (h.rd i hi h0).mono k⟩
attribute [local irreducible] gOK WS WC WR WD Ends FS YS OpV seqK blockK loopK midK retK rdK asgK rangeEnd sat Cell
section
variable {M : HL} {n0 : Nat} {H : Heap} {v w : Value}
theorem Grow_fs (hH : hasH M n0 H) {m : Nat} (h1 : 1 ≤ m) (h2 : m ≤ 50000) :
    FS C 74 [.slice none 0 0, .int .i64 (m : Int)] H (fun e H' => e = .slice (some ⟨n0, 0, some 0⟩) 0 (roomCode 1 m) ∧ hasH ((n0, .row 3 0 0 (ints (List.replicate m 0))) :: M) (n0 + 1) H') := by
  refine FS.intro (pf := pf74) rfl rfl rfl ?_
  repeat' (first | refine zP ?_ | refine zA ?_ | (refine zM ?_; intro _ _) | refine zX ?_ | (refine zC ?_; intro _ _ _ _) | (refine zS ?_; intro _ _) | refine zO ?_ | (apply Ws <;> intro hg))
  refine WR.op (by first | exact gN | exact gS rfl) rfl (OpV.capNil rfl) ?_
  repeat' (first | refine zP ?_ | refine zA ?_ | (refine zM ?_; intro _ _) | refine zX ?_ | (refine zC ?_; intro _ _ _ _) | (refine zS ?_; intro _ _) | refine zO ?_ | (apply Ws <;> intro hg))
  refine WR.op (by first | exact gN | exact gS rfl) rfl (OpV.capNil rfl) ?_
  refine WR.op (by first | exact gN | exact gS rfl) rfl (OpV.cutNil rfl rfl) ?_
  repeat' (first | refine zP ?_ | refine zA ?_ | (refine zM ?_; intro _ _) | refine zX ?_ | (refine zC ?_; intro _ _ _ _) | (refine zS ?_; intro _ _) | refine zO ?_ | (apply Ws <;> intro hg))
  refine WR.appZ (m := m) (by first | exact gN | exact gS rfl) rfl rfl (by show some _ = some _; congr 2) hH h1 h2 rfl fun H2 hH2 => ?_
  replace hH2 : hasH ((n0, .row 3 0 0 (ints (List.replicate m 0))) :: M) (n0 + 1) H2 := by rw [ints, List.map_replicate]; exact hH2
  repeat' (first | refine zP ?_ | refine zA ?_ | (refine zM ?_; intro _ _) | refine zX ?_ | (refine zC ?_; intro _ _ _ _) | (refine zS ?_; intro _ _) | refine zO ?_ | (apply Ws <;> intro hg))
  refine WR.op (by first | exact gN | exact gS rfl) rfl (OpV.cutPre (R := m) (m := 0) rfl (.inl ⟨rfl, rfl⟩) rfl (Nat.zero_le _) (by omega)) ?_
  repeat' (first | refine zP ?_ | refine zA ?_ | (refine zM ?_; intro _ _) | refine zX ?_ | (refine zC ?_; intro _ _ _ _) | (refine zS ?_; intro _ _) | refine zO ?_ | (apply Ws <;> intro hg))
  exact Ends.ret1 rfl ⟨rfl, hH2⟩
set_option maxHeartbeats 1000000 in
theorem Concat_fs (hH : hasH M n0 H) {ws : List Value} {Ls : List (List Int)} (hS : Sl M 1 v ws) (hP : PartsM M ws Ls) (hm : Ls.length ≤ 100) (h1 : 1 ≤ lenS Ls) (h2 : lenS Ls ≤ 50000) :
    FS C 41 [v] H (fun e H' => ∃ b n', e = .slice (some ⟨b, 0, some 0⟩) (lenS Ls) (roomCode 1 (lenS Ls)) ∧ n0 ≤ n' ∧ hasH ((b, .row 3 0 0 (ints Ls.flatten)) :: M) n' H') := by
  have hwl := hP.len
  refine FS.intro (pf := pf41) rfl rfl rfl ?_
  repeat' (first | refine zP ?_ | refine zA ?_ | (refine zM ?_; intro _ _) | refine zX ?_ | (refine zC ?_; intro _ _ _ _) | (refine zS ?_; intro _ _) | (apply Ws <;> intro hg))
  refine WC.loopX [(0, v), (9, v), (10, .int .i64 (ws.length : Int))] (fun k : Nat => [(3, .int .i64 (lenS (Ls.take k) : Int)), (11, .int .i64 (k : Int))]) []
    (fun k H' => k ≤ Ls.length ∧ H' = H) (fun k => Ls.length - k) 0 (by repeat' (first | exact .nil | refine .cons rfl ?_)) rfl ⟨Nat.zero_le _, rfl⟩ ?_
  rintro k _ ⟨hk, rfl⟩
  have hle := lenS_take Ls k
  dsimp only [List.cons_append, List.nil_append]
  repeat' (first | refine zP ?_ | refine zA ?_ | (refine zM ?_; intro _ _) | refine zX ?_ | (refine zC ?_; intro _ _ _ _) | (refine zS ?_; intro _ _) | (apply Ws <;> intro hg))
  refine WC.condP rfl (fun hlt => ?_) (fun hlt => ?_)
  · have hk' : k < Ls.length := by omega
    have hkw : k < ws.length := by omega
    have hSk := hP.sl k hk'
    have htk : Ls.take (k + 1) = Ls.take k ++ [Ls.getD k []] := by rw [List.take_succ_eq_append_getElem hk', getD_eq hk']
    have hle1 := lenS_take Ls (k + 1)
    rw [htk, lenS_snoc] at hle1
    repeat' (first | refine zP ?_ | refine zA ?_ | (refine zM ?_; intro _ _) | refine zX ?_ | (refine zC ?_; intro _ _ _ _) | (refine zS ?_; intro _ _) | refine zO ?_ | (apply Ws <;> intro hg))
    rw [show (lenS (Ls.take k) : Int) + ((Ls.getD k []).length : Int) = (lenS (Ls.take (k + 1)) : Int) by rw [htk, lenS_snoc]; omega]
    exact Ends.loop (k + 1) (by omega) (by repeat' (first | exact .nil | refine .cons rfl ?_)) rfl ⟨hk', rfl⟩
  · have hkn : k = Ls.length := by omega
    subst hkn
    rw [List.take_length]
    repeat' (first | refine zP ?_ | refine zA ?_ | (refine zM ?_; intro _ _) | refine zX ?_ | (refine zC ?_; intro _ _ _ _) | (refine zS ?_; intro _ _) | (apply Ws <;> intro hg))
    refine WR.call (by first | exact gN | exact gS rfl) rfl rfl (Grow_fs hH h1 h2) ?_
    rintro _ H2 ⟨rfl, hH2⟩
    obtain ⟨N, hN⟩ : ∃ N, lenS Ls = N := ⟨_, rfl⟩
    rw [hN] at h1 h2 hH2 hle ⊢
    have hS2 := hS.cons (p := (n0, .row 3 0 0 (ints (List.replicate N 0))))
    repeat' (first | refine zP ?_ | refine zA ?_ | (refine zM ?_; intro _ _) | refine zX ?_ | (refine zC ?_; intro _ _ _ _) | (refine zS ?_; intro _ _) | (apply Ws <;> intro hg))
    refine WC.loopX [(25, v), (26, .int .i64 (ws.length : Int))] (fun k : Nat => [(6, .slice (some ⟨n0, 0, some 0⟩) (lenS (Ls.take k)) (roomCode 1 N)), (27, .int .i64 (k : Int))]) []
      (fun k H' => k ≤ Ls.length ∧ hasH ((n0, .row 3 0 0 (ints ((Ls.take k).flatten ++ List.replicate (N - lenS (Ls.take k)) 0))) :: M) (n0 + 1) H') (fun k => Ls.length - k) 0 (by repeat' (first | exact .nil | refine .cons rfl ?_)) rfl ⟨Nat.zero_le _, by simpa [lenS] using hH2⟩ ?_
    clear hH2 hS2
    rintro k H3 ⟨hk, hH3⟩
    have hle := lenS_take Ls k
    have hS3 := hS.cons (p := (n0, .row 3 0 0 (ints ((Ls.take k).flatten ++ List.replicate (N - lenS (Ls.take k)) 0))))
    dsimp only [List.cons_append, List.nil_append]
    repeat' (first | refine zP ?_ | refine zA ?_ | (refine zM ?_; intro _ _) | refine zX ?_ | (refine zC ?_; intro _ _ _ _) | (refine zS ?_; intro _ _) | (apply Ws <;> intro hg))
    refine WC.condP rfl (fun hlt2 => ?_) (fun hlt2 => ?_)
    · have hk' : k < Ls.length := by omega
      have hkw : k < ws.length := by omega
      have hP3 := hP.mono (M' := (n0, .row 3 0 0 (ints ((Ls.take k).flatten ++ List.replicate (N - lenS (Ls.take k)) 0))) :: M) fun q hq => List.mem_cons_of_mem _ hq
      have hSk := hP3.sl k hk'
      have htk : Ls.take (k + 1) = Ls.take k ++ [Ls.getD k []] := by rw [List.take_succ_eq_append_getElem hk', getD_eq hk']
      have hle1 := lenS_take Ls (k + 1)
      have hls : lenS (Ls.take (k + 1)) = lenS (Ls.take k) + (Ls.getD k []).length := by rw [htk, lenS_snoc]
      obtain ⟨q1', q2'⟩ := src_of hSk (hP3.rd k hk') hH3
      have hfl := lenS_flat (Ls.take k)
      have hrow : ((Ls.take k).flatten ++ List.replicate (N - lenS (Ls.take k)) 0).take (lenS (Ls.take k)) ++ Ls.getD k [] ++ ((Ls.take k).flatten ++ List.replicate (N - lenS (Ls.take k)) 0).drop (lenS (Ls.take k) + (Ls.getD k []).length) = (Ls.take (k + 1)).flatten ++ List.replicate (N - lenS (Ls.take (k + 1))) 0 := by
        rw [List.take_append_of_le_length (by omega), List.take_of_length_le (by omega), List.drop_append, List.drop_of_length_le (by omega), List.nil_append, List.drop_replicate, htk, lenS_snoc, hfl, List.flatten_append, List.flatten_singleton, show N - (lenS (Ls.take k) + (Ls.getD k []).length) = N - lenS (Ls.take k) - (lenS (Ls.take k) + (Ls.getD k []).length - lenS (Ls.take k)) by omega]
      repeat' (first | refine zP ?_ | refine zA ?_ | (refine zM ?_; intro _ _) | refine zX ?_ | (refine zC ?_; intro _ _ _ _) | (refine zS ?_; intro _ _) | (apply Ws <;> intro hg))
      refine WR.appendRX (R := N) (by first | exact gN | exact gS rfl) rfl rfl rfl q1' q2' rfl hH3 .here (by omega) (by rw [List.length_append, hfl, List.length_replicate]; omega) fun H4 hH4 => ?_
      rw [hrow] at hH4
      repeat' (first | refine zP ?_ | refine zA ?_ | (refine zM ?_; intro _ _) | refine zX ?_ | (refine zC ?_; intro _ _ _ _) | (refine zS ?_; intro _ _) | (apply Ws <;> intro hg))
      rw [← hls]
      exact Ends.loop (k + 1) (by omega) (by repeat' (first | exact .nil | refine .cons rfl ?_)) rfl ⟨hk', hH4⟩
    · have hkn : k = Ls.length := by omega
      subst hkn
      rw [List.take_length] at hH3 hle ⊢
      rw [hN, Nat.sub_self, List.replicate_zero, List.append_nil] at hH3
      repeat' (first | refine zP ?_ | refine zA ?_ | (refine zM ?_; intro _ _) | refine zX ?_ | (refine zC ?_; intro _ _ _ _) | (refine zS ?_; intro _ _) | (apply Ws <;> intro hg))
      exact Ends.ret1 rfl ⟨n0, n0 + 1, by rw [hN], by omega, hH3⟩
end
end Go.Proofs.Ytnmlfjohoeebiaa.Wk

/- How inspectors divide the stretches: all lists, by their numbers. -/
namespace Go.Proofs.Ytnmlfjohoeebiaa.Wk
open Go Go.Abs Go.Mth
set_option linter.unusedVariables false
set_option linter.unusedSimpArgs false
/-- The division of a number: the thing that comes last changes first. -/
def divK (n : Nat) : Nat → Nat → List Nat
  | 0, _ => []
  | m + 1, k => divK n m (k / n) ++ [k % n]
theorem divK_len (n : Nat) : ∀ m k, (divK n m k).length = m
  | 0, _ => rfl
  | m + 1, k => by simp [divK, divK_len n m]
theorem divK_lt {n : Nat} (hn : 1 ≤ n) : ∀ m k, ∀ x ∈ divK n m k, x < n
  | 0, _, x, h => by cases h
  | m + 1, k, x, h => by
    rcases List.mem_append.1 h with h | h
    · exact divK_lt hn m _ x h
    · rw [List.mem_singleton.1 h]; exact Nat.mod_lt _ (by omega)
theorem div_up {n K : Nat} (h : K % n + 1 < n) : (K + 1) / n = K / n ∧ (K + 1) % n = K % n + 1 := by
  have h1 := Nat.div_add_mod K n
  have h2 : K + 1 = n * (K / n) + (K % n + 1) := by omega
  constructor
  · rw [h2, Nat.mul_add_div (by omega), Nat.div_eq_of_lt h]; omega
  · rw [h2, Nat.mul_add_mod, Nat.mod_eq_of_lt h]
theorem div_carry {n K : Nat} (hn : 1 ≤ n) (h : ¬ K % n + 1 < n) : (K + 1) / n = K / n + 1 ∧ (K + 1) % n = 0 ∧ K + 1 = (K / n + 1) * n := by
  have h1 := Nat.div_add_mod K n
  have h3 := Nat.mod_lt K (show 0 < n by omega)
  have h2 : K + 1 = n * (K / n + 1) := by rw [Nat.mul_add, Nat.mul_one]; omega
  refine ⟨?_, ?_, by rw [Nat.mul_comm]; exact h2⟩
  · rw [h2, Nat.mul_div_cancel_left _ (by omega)]
  · rw [h2, Nat.mul_mod_right]
/-- What stands while the next one is made: so many things, the last ones, have been set back. -/
structure Carry (n m k t K : Nat) : Prop where
  tm : t ≤ m
  nxt : divK n m (k + 1) = divK n (m - t) (K + 1) ++ List.replicate t 0
  num : k + 1 = (K + 1) * n ^ t
theorem Carry.start (n m k : Nat) : Carry n m k 0 k := ⟨Nat.zero_le _, by simp, by simp⟩
theorem Carry.step {n m k t K : Nat} (hn : 1 ≤ n) (h : Carry n m k t K) (ht : t < m) (hc : ¬ K % n + 1 < n) : Carry n m k (t + 1) (K / n) := by
  obtain ⟨d, hd⟩ : ∃ d, m - t = d + 1 := ⟨m - t - 1, by omega⟩
  obtain ⟨c1, c2, c3⟩ := div_carry hn hc
  refine ⟨by omega, ?_, ?_⟩
  · rw [h.nxt, hd, show m - (t + 1) = d by omega, divK, c1, c2, List.append_assoc]
    congr 1
  · rw [h.num, c3, Nat.pow_succ, Nat.mul_assoc, Nat.mul_comm n]
theorem Carry.done {n m k t K : Nat} (h : Carry n m k t K) (ht : t < m) (hc : K % n + 1 < n) : divK n m (k + 1) = divK n (m - t - 1) (K / n) ++ (K % n + 1) :: List.replicate t 0 := by
  obtain ⟨d, hd⟩ : ∃ d, m - t = d + 1 := ⟨m - t - 1, by omega⟩
  obtain ⟨c1, c2⟩ := div_up hc
  rw [h.nxt, hd, show d + 1 - 1 = d by omega, divK, c1, c2, List.append_assoc]
  rfl
theorem Carry.more {n m k t K : Nat} (h : Carry n m k t K) (ht : t < m) (hc : K % n + 1 < n) (hk : k < n ^ m) : k + 1 < n ^ m := by
  refine Nat.lt_of_le_of_ne hk fun e => ?_
  rw [h.num, show n ^ m = n ^ (m - t) * n ^ t by rw [← Nat.pow_add]; congr 1; omega] at e
  have hp : 0 < n ^ t := Nat.pow_pos (by omega)
  have e2 := Nat.eq_of_mul_eq_mul_right hp e
  obtain ⟨d, hd⟩ : ∃ d, m - t = d + 1 := ⟨m - t - 1, by omega⟩
  obtain ⟨_, c2⟩ := div_up hc
  rw [e2, hd, Nat.pow_succ, Nat.mul_mod_left] at c2
  omega
/-- What stands in the row then. -/
def carryL (n m t K : Nat) : List Nat := divK n (m - t) K ++ List.replicate t 0
/-- Each division has a number. -/
theorem divK_all {n : Nat} (hn : 1 ≤ n) : ∀ m {o : List Nat}, o.length = m → (∀ x ∈ o, x < n) → ∃ k, k < n ^ m ∧ divK n m k = o
  | 0, o, h, _ => ⟨0, by simp, by rw [List.length_eq_zero_iff.1 h]; rfl⟩
  | m + 1, o, h, hb => by
    rcases List.eq_nil_or_concat o with rfl | ⟨q, x, rfl⟩
    · simp at h
    · rw [List.concat_eq_append] at h hb ⊢
      obtain ⟨k, hk, rfl⟩ := divK_all hn m (o := q) (by simpa using h) fun y hy => hb y (by simp [hy])
      have hx := hb x (by simp)
      refine ⟨k * n + x, ?_, ?_⟩
      · rw [Nat.pow_succ]
        have := Nat.mul_le_mul_right n (show k + 1 ≤ n ^ m from hk)
        rw [Nat.add_mul, Nat.one_mul] at this
        omega
      · rw [show divK n (m + 1) (k * n + x) = divK n m ((k * n + x) / n) ++ [(k * n + x) % n] from rfl, Nat.mul_comm, Nat.mul_add_div (by omega), Nat.div_eq_of_lt hx, Nat.add_zero, Nat.mul_add_mod, Nat.mod_eq_of_lt hx]

/-- An inspector's numbers. -/
def ownK (T : List Int) (l : List Nat) (j : Nat) : Nat → List Int
  | 0 => []
  | k + 1 => if l.getD k 0 = j then ownK T l j k ++ [T.getD k 0] else ownK T l j k
theorem TOK.mem {T : List Int} (h : TOK T) {i : Nat} (hi : i < T.length) : 1 ≤ T.getD i 0 ∧ T.getD i 0 ≤ 8 := ⟨h.lo i hi, h.hi i hi⟩
noncomputable def goJ (T : List Int) (l : List Nat) (j : Nat) : Bool := everB (ownK T l j T.length) (startS (ownK T l j T.length))
noncomputable def validB (T : List Int) (g : Nat) (l : List Nat) : Bool := (List.range g).all (goJ T l)
theorem valid_iff {T : List Int} {g : Nat} {l : List Nat} : validB T g l = true ↔ ∀ j, j < g → goJ T l j = true := by
  unfold validB
  rw [List.all_eq_true]
  exact ⟨fun h j hj => h j (List.mem_range.2 hj), fun h j hj => h j (List.mem_range.1 hj)⟩
/-- The list that is returned: the first of those with the fewest inspectors. -/
structure FirstG (T : List Int) (g k : Nat) : Prop where
  g1 : 1 ≤ g
  gn : g ≤ T.length
  kn : k < g ^ T.length
  ok : validB T g (divK g T.length k) = true
  no : ∀ i, i < k → validB T g (divK g T.length i) = false
  few : ∀ f, 1 ≤ f → f < g → ∀ i, i < f ^ T.length → validB T f (divK f T.length i) = false
structure GK where
  k : Nat
  n : Nat
structure GS where
  g : Nat
  k : Nat
  n : Nat
structure TK where
  t : Nat
  K : Nat
attribute [local irreducible] gOK WS WC WR WD Ends FS YS OpV seqK blockK loopK midK retK rdK asgK rangeEnd sat Cell
section
variable {M : HL} {n0 : Nat} {H : Heap} {v w : Value}
end
end Go.Proofs.Ytnmlfjohoeebiaa.Wk

/- How inspectors divide the stretches: the first list of the fewest. -/
namespace Go.Abs
set_option linter.unusedSectionVars false
variable [Globs]
open Go
section
variable {C : CW} {ro : Option Nat} {fn : FuncId} {nt : Nat} {L : Env} {D : List Nat} {H : Heap} {K : Ex → St → Prop}
/-- A body with labels to which nothing goes. -/
def scopeK (K : Ex → St → Prop) : Ex → St → Prop
  | .goto _, _ => False
  | e, s => K e s
theorem WC.scope {b : PC} (h : WC C ro fn nt b L D H (scopeK K)) : WC C ro fn nt (.scope b) L D H K := by
  intro t ht
  obtain ⟨n, e, s1, h1, h2⟩ := h t ht
  cases e with
  | goto l => exact h2.elim
  | normal => exact ⟨n, _, s1, by simp only [stepC, h1, scopeC], h2⟩
  | ret => exact ⟨n, _, s1, by simp only [stepC, h1, scopeC], h2⟩
  | exit j => exact ⟨n, _, s1, by simp only [stepC, h1, scopeC], h2⟩
theorem Ends.scope (h : Ends K .normal L D H) : Ends (scopeK K) .normal L D H := h
end
end Go.Abs
namespace Go.Proofs.Ytnmlfjohoeebiaa.Wk
open Go Go.Abs Go.Mth
set_option linter.unusedVariables false
set_option linter.unusedSimpArgs false
def grpE (T : List Int) : Int := errT T
attribute [local irreducible] gOK WS WC WR WD Ends FS YS OpV seqK blockK loopK midK retK rdK asgK rangeEnd sat Cell
section
variable {M : HL} {n0 : Nat} {H : Heap} {v w : Value}
end
end Go.Proofs.Ytnmlfjohoeebiaa.Wk

/- Other numbers of stretches, a greater number, a stretch less. -/
namespace Go.Proofs.Ytnmlfjohoeebiaa.Wk
open Go Go.Abs Go.Mth
set_option linter.unusedVariables false
set_option linter.unusedSimpArgs false
/-- Stretches with names. -/
abbrev NmT := List (Int × Int)
structure NmW (P : NmT) (W : List Int) : Prop where
  nd : (P.map (·.1)).Nodup
  mem : ∀ x ∈ W, x ∈ P.map (·.1)
  win : ∀ p ∈ P, ∀ f, f + p.2.toNat ≤ W.length → p.1 ∈ (W.drop f).take p.2.toNat
def canN (T : List Int) (k : Nat) : Prop := ∃ P W, P.map (·.2) = T ∧ W.length = k ∧ NmW P W
def zipI : Nat → List Int → NmT
  | _, [] => []
  | i, t :: T => ((i : Int), t) :: zipI (i + 1) T
theorem NmW.perm {P P' : NmT} {W : List Int} (h : NmW P W) (k : P.Perm P') : NmW P' W :=
  ⟨(k.map _).nodup_iff.1 h.nd, fun x hx => (k.map _).mem_iff.1 (h.mem x hx), fun p hp => h.win p (k.mem_iff.2 hp)⟩
end Go.Proofs.Ytnmlfjohoeebiaa.Wk

/- As few inspectors: other numbers of stretches, and a stretch less. -/
namespace Go.Proofs.Ytnmlfjohoeebiaa.Wk
open Go Go.Abs Go.Mth
set_option linter.unusedVariables false
set_option linter.unusedSimpArgs false
/-- Stretches with inspectors. -/
abbrev InQ := List (Nat × Int)
def ownQ (Q : InQ) (j : Nat) : List Int := (Q.filter fun q => decide (q.1 = j)).map (·.2)
def validQ (Q : InQ) (g : Nat) : Prop := ∀ j, j < g → everB (ownQ Q j) (startS (ownQ Q j)) = true
def HasG (T : List Int) (g : Nat) : Prop := ∃ Q : InQ, Q.map (·.2) = T ∧ (∀ q ∈ Q, q.1 < g) ∧ validQ Q g
theorem ownK_zip {T : List Int} {l : List Nat} (hl : l.length = T.length) (j : Nat) : ∀ k, k ≤ T.length → ownK T l j k = ownQ ((l.take k).zip (T.take k)) j
  | 0, _ => by simp [ownK, ownQ]
  | k + 1, hk => by
    have hkT : k < T.length := by omega
    have hkl : k < l.length := by omega
    rw [List.take_succ_eq_append_getElem hkT, List.take_succ_eq_append_getElem hkl, List.zip_append (by simp; omega)]
    simp only [ownK, ownQ, List.filter_append, List.map_append]
    rw [ownK_zip hl j k (by omega), getD_eq hkl, getD_eq hkT]
    by_cases h : l[k] = j
    · rw [if_pos h]; simp [ownQ, h]
    · rw [if_neg h]; simp [ownQ, h]
theorem zip_snd {T : List Int} {l : List Nat} (hl : l.length = T.length) : (l.zip T).map (·.2) = T := by
  have := List.map_snd_zip (l₁ := l) (l₂ := T) (by omega)
  exact this
theorem goJ_zip {T : List Int} {l : List Nat} (hl : l.length = T.length) (j : Nat) : goJ T l j = everB (ownQ (l.zip T) j) (startS (ownQ (l.zip T) j)) := by
  unfold goJ
  rw [ownK_zip hl j _ (Nat.le_refl _), List.take_length, ← hl, List.take_length]
theorem valid_zip {T : List Int} {l : List Nat} (hl : l.length = T.length) (g : Nat) : validB T g l = true ↔ validQ (l.zip T) g := by
  rw [valid_iff]
  exact ⟨fun h j hj => by rw [← goJ_zip hl]; exact h j hj, fun h j hj => by rw [goJ_zip hl]; exact h j hj⟩
theorem FirstG.has {T : List Int} {g k : Nat} (h : FirstG T g k) : HasG T g := by
  have hl := divK_len g T.length k
  refine ⟨(divK g T.length k).zip T, zip_snd hl, fun q hq => ?_, (valid_zip hl g).1 h.ok⟩
  exact divK_lt h.g1 _ _ _ (List.of_mem_zip hq).1
theorem zip_of {Q : InQ} : (Q.map (·.1)).zip (Q.map (·.2)) = Q := by
  induction Q with
  | nil => rfl
  | cons q Q ih => simp [ih]
theorem FirstG.least {T : List Int} {g k f : Nat} (h : FirstG T g k) (hf : 1 ≤ f) (hG : HasG T f) : g ≤ f := by
  refine Nat.le_of_not_lt fun hlt => ?_
  obtain ⟨Q, hQ, hb, hv⟩ := hG
  have hl : (Q.map (·.1)).length = T.length := by rw [← hQ]; simp
  obtain ⟨i, hi, he⟩ := divK_all hf T.length hl fun x hx => by
    obtain ⟨q, hq, rfl⟩ := List.mem_map.1 hx
    exact hb q hq
  have h1 := h.few f hf hlt i hi
  have h2 : validB T f (Q.map (·.1)) = true := (valid_zip hl f).2 (by rw [← hQ, zip_of]; exact hv)
  rw [he, h2] at h1
  cases h1
theorem ever_nil : everB [] (startS []) = false := by
  cases h : everB [] (startS []) with
  | false => rfl
  | true =>
    obtain ⟨j, hj, _⟩ := everB_true.1 h 1
    simp at hj
/-- The last inspector has a stretch. -/
theorem FirstG.max {T : List Int} {g k : Nat} (h : FirstG T g k) : g - 1 ∈ divK g T.length k := by
  have hl := divK_len g T.length k
  have := valid_iff.1 h.ok (g - 1) (by have := h.g1; omega)
  rw [goJ_zip hl] at this
  refine Classical.byContradiction fun hn => ?_
  have h0 : ownQ ((divK g T.length k).zip T) (g - 1) = [] := by
    unfold ownQ
    rw [List.map_eq_nil_iff, List.filter_eq_nil_iff]
    intro q hq
    simp only [decide_eq_true_eq]
    intro e
    exact hn (e ▸ (List.of_mem_zip hq).1)
  rw [h0, ever_nil] at this
  cases this
end Go.Proofs.Ytnmlfjohoeebiaa.Wk

/- The law WalkNamed. -/
namespace Go.Proofs.Ytnmlfjohoeebiaa.Wk
open Go Go.Abs Go.Mth
set_option linter.unusedVariables false
set_option linter.unusedSimpArgs false
structure SW where
  k : Nat
  ys : List Int
attribute [local irreducible] gOK WS WC WR WD Ends FS YS OpV seqK blockK loopK midK retK rdK asgK rangeEnd sat Cell
section
variable {M : HL} {n0 : Nat} {H : Heap} {v w : Value}
theorem CloneX_fs (hH : hasH M n0 H) {o : List Int} (hS : Sl M 1 v (ints o)) (hx : o.length ≤ 1000) (hx1 : 1 ≤ o.length) :
    FS C 43 [v] H (fun e H' => ∃ b n', e = .slice (some ⟨b, 0, some 0⟩) o.length (2 * 1) ∧ n0 ≤ n' ∧ hasH ((b, .row 3 0 0 (ints o)) :: M) n' H') := by
  have hne : ints o ≠ [] := fun h => by have := List.map_eq_nil_iff.1 h; subst this; simp at hx1
  have hsm : ∃ a len cap, v = .slice (some a) len cap := by
    generalize ints o = cs at hS hne
    cases hS with
    | nil c => exact absurd rfl hne
    | emp a => exact ⟨_, _, _, rfl⟩
    | row => exact ⟨_, _, _, rfl⟩
  obtain ⟨a, len, cap, rfl⟩ := hsm
  refine FS.intro (pf := pf43) rfl rfl rfl ?_
  repeat' (first | refine zP ?_ | refine zA ?_ | (refine zM ?_; intro _ _) | refine zX ?_ | (refine zC ?_; intro _ _ _ _) | (refine zS ?_; intro _ _) | (apply Ws <;> intro hg))
  refine WR.bldS (by first | exact gN | exact gS rfl) rfl hH (vs := []) rfl (cs := []) (by rfl) rfl fun H3 hH3 => ?_
  repeat' (first | refine zP ?_ | refine zA ?_ | (refine zM ?_; intro _ _) | refine zX ?_ | (refine zC ?_; intro _ _ _ _) | (refine zS ?_; intro _ _) | (apply Ws <;> intro hg))
  obtain ⟨hk, hsr⟩ := (hS.cons (p := (n0, .row 3 0 0 []))).src hH3 hne
  rw [show (ints o).length = o.length by simp] at hk
  refine WR.appendNew (by first | exact gN | exact gS rfl) rfl rfl rfl hH3 (.head _) (.row _ _ _ _) (Nat.zero_le _) (Nat.zero_le _) hk (by have := hsr _ (Nat.le_refl _); rw [List.take_length, show (ints o).length = o.length by simp] at this; exact this) (by simp) hx1 (ints_one _) (by omega) (by omega) (by omega) fun H' hH' => ?_
  repeat' (first | refine zP ?_ | refine zA ?_ | (refine zM ?_; intro _ _) | refine zX ?_ | (refine zC ?_; intro _ _ _ _) | (refine zS ?_; intro _ _) | (apply Ws <;> intro hg))
  exact Ends.ret1 rfl ⟨n0 + 1, n0 + 2, rfl, by omega, hH'.sub (.cons_cons _ (List.sublist_cons_self _ _))⟩
end
end Go.Proofs.Ytnmlfjohoeebiaa.Wk

/- The law WalkPlans. -/
namespace Go.Proofs.Ytnmlfjohoeebiaa.Wk
open Go Go.Abs Go.Mth
set_option linter.unusedVariables false
set_option linter.unusedSimpArgs false
theorem turn_get {P : List Int} {c j : Nat} (hc : c < P.length) (hj : j < P.length) : (P.drop c ++ P.take c).getD j 0 = P.getD ((j + c) % P.length) 0 := by
  by_cases h : j < P.length - c
  · rw [getD_app_l (by simp; omega), Nat.mod_eq_of_lt (by omega), getD_eq (by simp; omega), getD_eq (by omega)]
    simp only [List.getElem_drop]
    congr 1; omega
  · rw [List.getD_eq_getElem?_getD, List.getElem?_append_right (by simp; omega), ← List.getD_eq_getElem?_getD, getD_take (by simp; omega)]
    congr 1
    rw [List.length_drop, Nat.mod_eq_sub_mod (by omega), Nat.mod_eq_of_lt (by omega)]
    omega
theorem turn_back {P : List Int} {c j : Nat} (hc : c < P.length) (hj : j < P.length) : P.getD j 0 = (P.drop c ++ P.take c).getD ((j + (P.length - c)) % P.length) 0 := by
  have hm := Nat.mod_lt (j + (P.length - c)) (show 0 < P.length by omega)
  rw [turn_get hc hm, Nat.mod_add_mod, show j + (P.length - c) + c = j + P.length by omega, Nat.add_mod_right, Nat.mod_eq_of_lt hj]
theorem cyc_turn_iff {T P : List Int} {c : Nat} (hc : c < P.length) : CycG T (P.drop c ++ P.take c) ↔ CycG T P := by
  have hl : (P.drop c ++ P.take c).length = P.length := by simp; omega
  exact ⟨fun h => cyc_turn (c := P.length - c) (by omega) hl.symm (fun j hj => by rw [hl] at hj ⊢; exact turn_back hc hj) h, fun h => cyc_turn (by omega) hl (fun j hj => turn_get hc hj) h⟩
theorem back_get {P : List Int} {j : Nat} (hj : j < P.length) : P.reverse.getD j 0 = P.getD (P.length - 1 - j) 0 := by
  rw [getD_eq (by simpa using hj), getD_eq (by omega)]; simp
theorem cyc_back_iff {T P : List Int} (hT : TOK T) (hp : 1 ≤ P.length) : CycG T P.reverse ↔ CycG T P := by
  refine ⟨fun h => ?_, fun h => cyc_back hp (by simp) (fun j hj => back_get hj) hT.lo h⟩
  have := cyc_back (P := P.reverse) (Q := P.reverse.reverse) (by simpa using hp) (by simp) (fun j hj => back_get hj) hT.lo h
  rwa [List.reverse_reverse] at this
theorem meetE_val {T P : List Int} (hT : TOK T) (h1 : 1 ≤ T.length) (hp : 1 ≤ P.length) (hp2 : P.length ≤ 60) (hw : WOK T.length P) : (CycG T P → meetE T P = 0) ∧ (¬ CycG T P → meetE T P = 14) := by
  have hE := errT_of hT h1
  have hWE := walkE_ok.2 ⟨hp2, hw⟩
  unfold meetE
  rw [if_neg (by omega), if_neg (by omega), if_neg (by omega)]
  exact ⟨fun h => by rw [if_pos (goodB_true.2 ((cyc_good hT hp).2 h))], fun h => by rw [if_neg (by rw [goodB_false (fun h2 => h ((cyc_good hT hp).1 h2))]; simp)]⟩
theorem fill2 {v w : Value} (h : one v = true) (k : one w = true) : Instr.fill (fun j => some (j * 1, 1)) [Value.slice none 0 0, .slice none 0 0].toArray [(0, v), (1, w)] = some [v, w].toArray := by
  cases v <;> first | (cases h; done) | (cases w <;> first | (cases k; done) | rfl)
/-- At one place, from there on. -/
def hitF (P : List Int) (i t f : Nat) : Prop := ∃ k, k < t ∧ P.getD ((f + k) % P.length) 0 = (i : Int)
theorem cyc_hit {T P : List Int} (hp : 1 ≤ P.length) : CycG T P ↔ ∀ i, i < T.length → ∀ f, f < P.length → hitF P i (T.getD i 0).toNat f := by
  constructor
  · exact fun h i hi f _ => h i hi f
  · intro h i hi f
    obtain ⟨k, h1, h2⟩ := h i hi (f % P.length) (Nat.mod_lt _ (by omega))
    rw [Nat.mod_add_mod] at h2
    exact ⟨k, h1, h2⟩
structure BV where
  k : Nat
  g : Bool
attribute [local irreducible] gOK WS WC WR WD Ends FS YS OpV seqK blockK loopK midK retK rdK asgK rangeEnd sat Cell
section
variable {M : HL} {n0 : Nat} {H : Heap} {v w : Value}
/-- In the opposite order. -/
theorem Reverse_fs {b u cp : Nat} {o : List Int} (hH : hasH ((b, .row 3 u 0 (ints o)) :: M) n0 H) (hol : o.length ≤ 1000) :
    FS C 45 [.slice (some ⟨b, 0, some u⟩) o.length cp] H (fun e H' => hasH ((b, .row 3 u 0 (ints o.reverse)) :: M) n0 H') := by
  refine FS.intro (pf := pf45) rfl rfl rfl ?_
  repeat' (first | refine zP ?_ | refine zA ?_ | (refine zM ?_; intro _ _) | refine zX ?_ | (refine zC ?_; intro _ _ _ _) | (refine zS ?_; intro _ _) | (apply Ws <;> intro hg))
  refine WC.loopX [(0, .slice (some ⟨b, 0, some u⟩) o.length cp)] (fun s : Nat × List Int => [(2, .int .i64 (s.1 : Int)), (3, .int .i64 ((o.length : Int) - 1 - s.1))]) []
    (fun s H' => hasH ((b, .row 3 u 0 (ints s.2)) :: M) n0 H' ∧ 2 * s.1 ≤ o.length ∧ s.2.length = o.length ∧ ∀ k, k < o.length → s.2.getD k 0 = if k < s.1 ∨ o.length - s.1 ≤ k then o.getD (o.length - 1 - k) 0 else o.getD k 0) (fun s => o.length - s.1) (0, o) ?_ rfl
    ⟨hH, Nat.zero_le _, rfl, fun k hk => by simp only; rw [if_neg (by omega)]⟩ ?_
  · refine .cons rfl (.cons ?_ (.cons rfl .nil))
    show some (Value.int .i64 ((o.length : Int) - 1)) = some (.int .i64 ((o.length : Int) - 1 - ((0 : Nat) : Int)))
    simp
  clear hH
  rintro ⟨k, ys⟩ H1 ⟨hH1, hk, hyl, hys⟩
  simp only at hH1 hk hyl hys
  dsimp only [List.cons_append, List.nil_append]
  repeat' (first | refine zP ?_ | refine zA ?_ | (refine zM ?_; intro _ _) | refine zX ?_ | (refine zC ?_; intro _ _ _ _) | (refine zS ?_; intro _ _) | (apply Ws <;> intro hg))
  refine WC.condP rfl (fun hlt => ?_) (fun hlt => ?_)
  · have hk' : k < o.length := by omega
    obtain ⟨j, hj⟩ : ∃ j : Nat, (o.length : Int) - 1 - k = j := ⟨o.length - 1 - k, by omega⟩
    rw [hj]
    repeat' (first | refine zP ?_ | refine zA ?_ | (refine zM ?_; intro _ _) | refine zX ?_ | (refine zC ?_; intro _ _ _ _) | (refine zS ?_; intro _ _) | (apply Ws <;> intro hg))
    rename_i H2 hH2
    have hl2 : (ys.set k (ys.getD j 0)).length = o.length := by simp [hyl]
    repeat' (first | refine zP ?_ | refine zA ?_ | (refine zM ?_; intro _ _) | refine zX ?_ | (refine zC ?_; intro _ _ _ _) | (refine zS ?_; intro _ _) | (apply Ws <;> intro hg))
    rename_i H3 hH3
    rw [show (j : Int) - 1 = (o.length : Int) - 1 - ((k + 1 : Nat) : Int) by omega]
    refine Ends.loop (k + 1, (ys.set k (ys.getD j 0)).set j (ys.getD k 0)) (by simp only; omega) (by repeat' (first | exact .nil | refine .cons rfl ?_)) rfl ⟨hH3, by simp only; omega, by simp [hyl], fun i hi => ?_⟩
    simp only
    rw [getD_set' (by omega), getD_set' (by omega)]
    have hjk := hys j (by omega)
    have hkk := hys k (by omega)
    rw [if_neg (by omega)] at hjk hkk
    by_cases h1 : i = j
    · rw [if_pos h1, if_pos (by omega), hkk]; congr 1; omega
    · rw [if_neg h1]
      by_cases h2 : i = k
      · rw [if_pos h2, if_pos (by omega), hjk]; congr 1; omega
      · rw [if_neg h2, hys i hi]
        by_cases h3 : i < k ∨ o.length - k ≤ i
        · rw [if_pos h3, if_pos (by omega)]
        · rw [if_neg h3, if_neg (by omega)]
  · have hre : ys = o.reverse := by
      refine ext_getD (a := 0) (by simp [hyl]) fun i hi => ?_
      rw [hys i (by omega), getD_eq (show i < o.reverse.length by simp; omega), List.getElem_reverse]
      by_cases h3 : i < k ∨ o.length - k ≤ i
      · rw [if_pos h3, getD_eq (by omega)]
      · rw [if_neg h3, getD_eq (by omega)]
        congr 1; omega
    subst hre
    repeat' (first | refine zP ?_ | refine zA ?_ | (refine zM ?_; intro _ _) | refine zX ?_ | (refine zC ?_; intro _ _ _ _) | (refine zS ?_; intro _ _) | (apply Ws <;> intro hg))
    exact Ends.end0 hH1

end
end Go.Proofs.Ytnmlfjohoeebiaa.Wk

/- The law WalkPlans. -/
namespace Go.Proofs.Ytnmlfjohoeebiaa.Wk
open Go Go.Abs Go.Mth
set_option linter.unusedVariables false
set_option linter.unusedSimpArgs false
attribute [local irreducible] gOK WS WC WR WD Ends FS YS OpV seqK blockK loopK midK retK rdK asgK rangeEnd sat Cell
section
variable {M : HL} {n0 : Nat} {H : Heap} {v w : Value}
set_option maxHeartbeats 4000000 in
theorem WalkPlans_fs (hH : hasH M n0 H) {a b c : Int} {hs : List Int} (ha : 0 ≤ a ∧ a ≤ 255) (hb : 0 ≤ b ∧ b ≤ 255) (hc : 0 ≤ c ∧ c ≤ 255) (hl : hs.length = 2) (hu : ∀ x ∈ hs, 0 ≤ x ∧ x ≤ 255) {many : Int} (hm : 0 ≤ many ∧ many ≤ 255) {by' : List Int} (hbl : by'.length = 12) (hbu : ∀ x ∈ by', 0 ≤ x ∧ x ≤ 255) {turn : Int} (htu : 0 ≤ turn ∧ turn ≤ 255) {which : Int} (hwh : 0 ≤ which ∧ which ≤ 255) :
    FS C 12 [.agg (trayV a b c hs).toArray, .int .u8 many, .agg (by'.map (Value.int .u8)).toArray, .int .u8 turn, .int .u8 which] H (fun e H' => e = .bool true) := by
  obtain ⟨x, ys, hE, hx, hyl, hy⟩ := tray_beach ha hb hc hl hu
  obtain ⟨zs, hZ, hzl, hz⟩ := bytes_nat hbu
  obtain ⟨mn, rfl⟩ : ∃ mn : Nat, many = mn := ⟨many.toNat, by omega⟩
  obtain ⟨tn, rfl⟩ : ∃ tn : Nat, turn = tn := ⟨turn.toNat, by omega⟩
  obtain ⟨wn, rfl⟩ : ∃ wn : Nat, which = wn := ⟨which.toNat, by omega⟩
  rw [hE, hZ]
  rw [hbl] at hzl
  clear hE ha hb hc hl hu hZ hbu hbl
  have hone := beach_one x ys
  have hone2 := numsK_one .u8 zs
  have hbl : (beachC x ys).length = 5 := by simp [beachC, hyl]
  have hzl2 : (numsK .u8 zs).length = 12 := by simp [hzl]
  refine FS.intro (pf := pf12) rfl rfl rfl ?_
  repeat' (first | refine zP ?_ | refine zA ?_ | (refine zM ?_; intro _ _) | refine zX ?_ | (refine zC ?_; intro _ _ _ _) | (refine zS ?_; intro _ _) | (apply Ws <;> intro hg))
  rename_i H1 hH1 H1' hH1'
  refine WR.call (by first | exact gN | exact gS rfl) rfl rfl (made_fs (many := 3) (most := 7) hH1' hx hyl hy (by omega) (by omega)) ?_
  rintro tv H2 ⟨MT, n2, hOT, hn2, hH2⟩
  have hST := hOT.sl ((n0 + 1, .row 56 0 0 (numsK .u8 zs)) :: (n0, .row 45 0 0 (beachC x ys)) :: M)
  have hmem : (n0 + 1, Ch.row 56 0 0 (numsK .u8 zs)) ∈ MT ++ ((n0 + 1, .row 56 0 0 (numsK .u8 zs)) :: (n0, .row 45 0 0 (beachC x ys)) :: M) := List.mem_append_right _ (.head _)
  clear hOT hH1 hH1'
  generalize MT ++ ((n0 + 1, .row 56 0 0 (numsK .u8 zs)) :: (n0, .row 45 0 0 (beachC x ys)) :: M) = T0 at hH2 hST hmem
  obtain ⟨N, hN⟩ : ∃ N, 1 + x % 3 = N := ⟨_, rfl⟩
  have hN4 : 1 ≤ N ∧ N ≤ 3 := by omega
  rw [hN] at hST
  have hTok := made_ok (ys := ys) (most := 7) (n := N) (by omega) (by omega)
  have hT7 : ∀ t ∈ firstT (madeF 7) ys N, t ≤ 7 := fun t ht => by
    obtain ⟨i, _, rfl⟩ := List.mem_map.1 ht
    have := Nat.mod_lt (ys.getD i 0) (show 0 < 7 by decide)
    simp only [madeF]; omega
  have hTl : (firstT (madeF 7) ys N).length = N := firstT_len _ _ _
  generalize firstT (madeF 7) ys N = T at hST hTok hTl hT7
  generalize n0 + 1 = nb at *
  repeat' (first | refine zP ?_ | refine zA ?_ | (refine zM ?_; intro _ _) | refine zX ?_ | (refine zC ?_; intro _ _ _ _) | (refine zS ?_; intro _ _) | (apply Ws <;> intro hg))
  refine WR.op (by first | exact gN | exact gS rfl) rfl (OpV.conv u8k i64k rfl (c := (mn : Int)) (IntWalk.i64_in _ (by omega))) ?_
  repeat' (first | refine zP ?_ | refine zA ?_ | (refine zM ?_; intro _ _) | refine zX ?_ | (refine zC ?_; intro _ _ _ _) | (refine zS ?_; intro _ _) | (apply Ws <;> intro hg))
  rw [show (mn : Int) % 12 = ((mn % 12 : Nat) : Int) by simp]
  obtain ⟨m, hmm⟩ : ∃ m, 1 + mn % 12 = m := ⟨_, rfl⟩
  have hm12 : 1 ≤ m ∧ m ≤ 12 := by omega
  repeat' (first | refine zP ?_ | refine zA ?_ | (refine zM ?_; intro _ _) | refine zX ?_ | (refine zC ?_; intro _ _ _ _) | (refine zS ?_; intro _ _) | (apply Ws <;> intro hg))
  rw [show (1 : Int) + ((mn % 12 : Nat) : Int) = (m : Int) by omega]
  refine WR.op (by first | exact gN | exact gS rfl) rfl (OpV.slAh rfl rfl hm12.2 (by decide)) ?_
  repeat' (first | refine zP ?_ | refine zA ?_ | (refine zM ?_; intro _ _) | refine zX ?_ | (refine zC ?_; intro _ _ _ _) | (refine zS ?_; intro _ _) | (apply Ws <;> intro hg))
  refine WC.loopX [(3, _), (4, _), (11, _), (32, _), (33, _)] (fun s : AV => [(12, s.v), (34, .int .i64 (s.k : Int))]) []
    (fun s H' => s.k ≤ m ∧ n2 ≤ s.n ∧ Own 3 1 s.v (ints (firstT (modF N) zs s.k)) s.Mx ∧ hasH (s.Mx ++ T0) s.n H') (fun s => m - s.k) ⟨0, .slice none 0 0, [], n2⟩ (by repeat' (first | exact .nil | refine .cons rfl ?_)) rfl
    ⟨Nat.zero_le _, Nat.le_refl _, .nil, hH2⟩ ?_
  clear hH2
  rintro ⟨k, wv, MW, n3⟩ H3 ⟨hk, hn3, hO, hH3⟩
  simp only at hk hn3 hO hH3
  have hST3 : Sl (MW ++ T0) 1 tv (ints T) := hST.mono fun q hq => List.mem_append_right _ hq
  have hTlI : ((T.length : Nat) : Int) = (N : Int) := by rw [hTl]
  dsimp only [List.cons_append, List.nil_append]
  repeat' (first | refine zP ?_ | refine zA ?_ | (refine zM ?_; intro _ _) | refine zX ?_ | (refine zC ?_; intro _ _ _ _) | (refine zS ?_; intro _ _) | (apply Ws <;> intro hg))
  refine WC.condP rfl (fun hlt => ?_) (fun hlt => ?_)
  · have hk' : k < m := by omega
    have hzk : zs.getD k 0 ≤ 255 := hz _ (getD_mem (by omega))
    have hcell : (numsK .u8 zs)[k - 0]? = some (.int .u8 ((zs.getD k 0 : Nat) : Int)) := nodes_get (by omega)
    repeat' (first | refine zP ?_ | refine zA ?_ | (refine zM ?_; intro _ _) | refine zX ?_ | (refine zC ?_; intro _ _ _ _) | (refine zS ?_; intro _ _) | (apply Ws <;> intro hg))
    refine WR.op (by first | exact gN | exact gS rfl) rfl (OpV.load1 rfl hH3 (List.mem_append_right _ hmem) (.row _ _ _ _) (Nat.zero_le _) hcell) ?_
    repeat' (first | refine zP ?_ | refine zA ?_ | (refine zM ?_; intro _ _) | refine zX ?_ | (refine zC ?_; intro _ _ _ _) | (refine zS ?_; intro _ _) | (apply Ws <;> intro hg))
    refine WR.op (by first | exact gN | exact gS rfl) rfl (OpV.conv u8k i64k rfl (c := ((zs.getD k 0 : Nat) : Int)) (IntWalk.i64_in _ (by omega))) ?_
    repeat' (first | refine zP ?_ | refine zA ?_ | (refine zM ?_; intro _ _) | refine zX ?_ | (refine zC ?_; intro _ _ _ _) | (refine zS ?_; intro _ _) | (apply Ws <;> intro hg))
    rw [hTlI, show ((zs.getD k 0 : Nat) : Int) % (N : Int) = ((modF N (zs.getD k 0) : Nat) : Int) by simp [modF]]
    have hmm' := Nat.mod_lt (zs.getD k 0) (show 0 < N by omega)
    refine WR.append1F [] MW T0 rfl rfl rfl rfl hO hH3 (new := [.int .i64 ((modF N (zs.getD k 0) : Nat) : Int)]) (by rfl) rfl rfl (Nat.le_refl _) (by omega) (by simp [firstT_len]; omega) fun v3 M3 n4 H6 hO3 hH6 hn4 => ?_
    replace hH6 : hasH (M3 ++ T0) n4 H6 := hH6
    repeat' (first | refine zP ?_ | refine zA ?_ | (refine zM ?_; intro _ _) | refine zX ?_ | (refine zC ?_; intro _ _ _ _) | (refine zS ?_; intro _ _) | (apply Ws <;> intro hg))
    refine Ends.loop ⟨k + 1, v3, M3, n4⟩ (by simp only; omega) (by repeat' (first | exact .nil | refine .cons rfl ?_)) rfl ⟨hk', by simp only; omega, ?_, hH6⟩
    show Own _ 1 v3 (List.map (Value.int .i64) (firstT (modF N) zs (k + 1))) M3
    rw [firstT_succ, List.map_append]
    exact hO3
  · have hkm : k = m := by omega
    subst hkm
    have hwok := firstT_wok (N := N) (m := k) (zs := zs) hN4.1
    have hwl : (firstT (modF N) zs k).length = k := firstT_len _ _ _
    have hSW := hO.sl T0
    generalize MW ++ T0 = T1 at hH3 hST3 hSW
    generalize firstT (modF N) zs k = P at hSW hwok hwl
    rw [← hTl] at hwok
    clear hO hST hmem hTlI
    subst hTl
    subst hwl
    repeat' (first | refine zP ?_ | refine zA ?_ | (refine zM ?_; intro _ _) | refine zX ?_ | (refine zC ?_; intro _ _ _ _) | (refine zS ?_; intro _ _) | (apply Ws <;> intro hg))
    refine WC.loopX [(3, .int .u8 (tn : Int)), (4, .int .u8 (wn : Int)), (11, tv), (12, wv), (47, tv), (48, .int .i64 (T.length : Int))] (fun z : BV => [(49, .int .i64 (z.k : Int)), (15, .bool z.g)]) []
      (fun z H' => H' = H3 ∧ z.k ≤ T.length ∧ (z.g = true ↔ ∀ i, i < z.k → ∀ f, f < P.length → hitF P i (T.getD i 0).toNat f)) (fun z => T.length - z.k) ⟨0, true⟩ (by repeat' (first | exact .nil | refine .cons rfl ?_)) rfl ⟨rfl, Nat.zero_le _, ⟨fun _ i hi => absurd hi (Nat.not_lt_zero _), fun _ => rfl⟩⟩ ?_
    rintro ⟨i, g⟩ H4 ⟨rfl, hi, hg⟩
    simp only at hi hg
    dsimp only [List.cons_append, List.nil_append]
    repeat' (first | refine zP ?_ | refine zA ?_ | (refine zM ?_; intro _ _) | refine zX ?_ | (refine zC ?_; intro _ _ _ _) | (refine zS ?_; intro _ _) | (apply Ws <;> intro hg))
    refine WC.condP rfl (fun hlt1 => ?_) (fun hlt1 => ?_)
    · have hi' : i < T.length := by omega
      have hti := hTok.mem hi'
      obtain ⟨t, ht⟩ : ∃ t : Nat, T.getD i 0 = (t : Int) := ⟨(T.getD i 0).toNat, by omega⟩
      repeat' (first | refine zP ?_ | refine zA ?_ | (refine zM ?_; intro _ _) | refine zX ?_ | (refine zC ?_; intro _ _ _ _) | (refine zS ?_; intro _ _) | (apply Ws <;> intro hg))
      rw [ht] at hti ⊢
      refine WC.loopX [(3, .int .u8 (tn : Int)), (4, .int .u8 (wn : Int)), (11, tv), (12, wv), (47, tv), (48, .int .i64 (T.length : Int)), (49, .int .i64 (i : Int)), (16, .int .i64 (i : Int)), (17, .int .i64 (t : Int)), (55, .int .i64 (P.length : Int))] (fun z : BV => [(56, .int .i64 (z.k : Int)), (15, .bool z.g)]) []
        (fun z H' => H' = H4 ∧ z.k ≤ P.length ∧ (z.g = true ↔ g = true ∧ ∀ f, f < z.k → hitF P i t f)) (fun z => P.length - z.k) ⟨0, g⟩ (by repeat' (first | exact .nil | refine .cons rfl ?_)) rfl ⟨rfl, Nat.zero_le _, ⟨fun h => ⟨h, fun f hf => absurd hf (Nat.not_lt_zero _)⟩, fun h => h.1⟩⟩ ?_
      rintro ⟨f, g2⟩ H5 ⟨rfl, hf, hg2⟩
      simp only at hf hg2
      dsimp only [List.cons_append, List.nil_append]
      repeat' (first | refine zP ?_ | refine zA ?_ | (refine zM ?_; intro _ _) | refine zX ?_ | (refine zC ?_; intro _ _ _ _) | (refine zS ?_; intro _ _) | (apply Ws <;> intro hg))
      refine WC.condP rfl (fun hlt2 => ?_) (fun hlt2 => ?_)
      · have hf' : f < P.length := by omega
        repeat' (first | refine zP ?_ | refine zA ?_ | (refine zM ?_; intro _ _) | refine zX ?_ | (refine zC ?_; intro _ _ _ _) | (refine zS ?_; intro _ _) | (apply Ws <;> intro hg))
        refine WC.loopX [(3, .int .u8 (tn : Int)), (4, .int .u8 (wn : Int)), (11, tv), (12, wv), (47, tv), (48, .int .i64 (T.length : Int)), (49, .int .i64 (i : Int)), (16, .int .i64 (i : Int)), (17, .int .i64 (t : Int)), (55, .int .i64 (P.length : Int)), (56, .int .i64 (f : Int)), (18, .int .i64 (f : Int)), (15, .bool g2), (59, .int .i64 (t : Int))] (fun z : BV => [(60, .int .i64 (z.k : Int)), (19, .bool z.g)]) []
          (fun z H' => H' = H5 ∧ z.k ≤ t ∧ (z.g = true ↔ ∃ q, q < z.k ∧ P.getD ((f + q) % P.length) 0 = (i : Int))) (fun z => t - z.k) ⟨0, false⟩ (by repeat' (first | exact .nil | refine .cons rfl ?_)) rfl ⟨rfl, Nat.zero_le _, ⟨fun h => (by cases h), fun ⟨q, hq, _⟩ => absurd hq (Nat.not_lt_zero _)⟩⟩ ?_
        rintro ⟨q, g3⟩ H6 ⟨rfl, hq, hg3⟩
        simp only at hq hg3
        dsimp only [List.cons_append, List.nil_append]
        repeat' (first | refine zP ?_ | refine zA ?_ | (refine zM ?_; intro _ _) | refine zX ?_ | (refine zC ?_; intro _ _ _ _) | (refine zS ?_; intro _ _) | (apply Ws <;> intro hg))
        refine WC.condP rfl (fun hlt3 => ?_) (fun hlt3 => ?_)
        · have hq' : q < t := by omega
          have hfm := Nat.mod_lt (f + q) (show 0 < P.length by omega)
          cases g3 with
          | true =>
            repeat' (first | refine zP ?_ | refine zA ?_ | (refine zM ?_; intro _ _) | refine zX ?_ | (refine zC ?_; intro _ _ _ _) | (refine zS ?_; intro _ _) | (apply Ws <;> intro hg))
            refine Ends.loop ⟨q + 1, true⟩ (by simp only; omega) (by repeat' (first | exact .nil | refine .cons rfl ?_)) rfl ⟨rfl, hq', ⟨fun _ => ?_, fun _ => rfl⟩⟩
            obtain ⟨q0, h1, h2⟩ := hg3.1 rfl
            exact ⟨q0, Nat.lt_succ_of_lt h1, h2⟩
          | false =>
            have hno : ¬ ∃ q0, q0 < q ∧ P.getD ((f + q0) % P.length) 0 = (i : Int) := fun h => by have := hg3.2 h; cases this
            repeat' (first | refine zP ?_ | refine zA ?_ | (refine zM ?_; intro _ _) | refine zX ?_ | (refine zC ?_; intro _ _ _ _) | (refine zS ?_; intro _ _) | (apply Ws <;> intro hg))
            rw [show ((f : Int) + (q : Int)) % (P.length : Int) = (((f + q) % P.length : Nat) : Int) by simp]
            generalize hfq : (f + q) % P.length = r at hfm
            repeat' (first | refine zP ?_ | refine zA ?_ | (refine zM ?_; intro _ _) | refine zX ?_ | (refine zC ?_; intro _ _ _ _) | (refine zS ?_; intro _ _) | (apply Ws <;> intro hg))
            refine Ends.loop ⟨q + 1, decide (P.getD r 0 = (i : Int))⟩ (by simp only; omega) (by repeat' (first | exact .nil | refine .cons rfl ?_)) rfl ⟨rfl, hq', ?_⟩
            simp only [decide_eq_true_eq]
            constructor
            · exact fun h => ⟨q, by omega, by rw [hfq]; exact h⟩
            · rintro ⟨q0, h1, h2⟩
              by_cases e : q0 = q
              · rw [e, hfq] at h2; exact h2
              · exact absurd ⟨q0, by omega, h2⟩ hno
        · have hqt : q = t := by omega
          subst hqt
          have hhit : g3 = true ↔ hitF P i q f := hg3
          cases g2 with
          | false =>
            repeat' (first | refine zP ?_ | refine zA ?_ | (refine zM ?_; intro _ _) | refine zX ?_ | (refine zC ?_; intro _ _ _ _) | (refine zS ?_; intro _ _) | (apply Ws <;> intro hg))
            refine Ends.loop ⟨f + 1, false⟩ (by simp only; omega) (by repeat' (first | exact .nil | refine .cons rfl ?_)) rfl ⟨rfl, hf', ⟨fun h => (by cases h), fun h => ?_⟩⟩
            exact hg2.2 ⟨h.1, fun f0 hf0 => h.2 f0 (by simp only; omega)⟩
          | true =>
            have hgg := hg2.1 rfl
            repeat' (first | refine zP ?_ | refine zA ?_ | (refine zM ?_; intro _ _) | refine zX ?_ | (refine zC ?_; intro _ _ _ _) | (refine zS ?_; intro _ _) | (apply Ws <;> intro hg))
            refine Ends.loop ⟨f + 1, g3⟩ (by simp only; omega) (by repeat' (first | exact .nil | refine .cons rfl ?_)) rfl ⟨rfl, hf', ?_⟩
            show g3 = true ↔ g = true ∧ ∀ f0, f0 < f + 1 → hitF P i q f0
            rw [hhit]
            refine ⟨fun h => ⟨hgg.1, fun f0 hf0 => ?_⟩, fun h => h.2 f (by omega)⟩
            rcases Nat.lt_or_ge f0 f with h0 | h0
            · exact hgg.2 f0 h0
            · rw [show f0 = f by omega]; exact h
      · have hfp : f = P.length := by omega
        subst hfp
        repeat' (first | refine zP ?_ | refine zA ?_ | (refine zM ?_; intro _ _) | refine zX ?_ | (refine zC ?_; intro _ _ _ _) | (refine zS ?_; intro _ _) | (apply Ws <;> intro hg))
        refine Ends.loop ⟨i + 1, g2⟩ (by simp only; omega) (by repeat' (first | exact .nil | refine .cons rfl ?_)) rfl ⟨rfl, hi', ?_⟩
        show g2 = true ↔ ∀ j, j < i + 1 → ∀ f, f < P.length → hitF P j (T.getD j 0).toNat f
        rw [hg2, hg]
        constructor
        · rintro ⟨h1, h2⟩ j hj f hf
          rcases Nat.lt_or_ge j i with h | h
          · exact h1 j h f hf
          · have : j = i := by omega
            subst this
            rw [ht, Int.toNat_natCast]
            exact h2 f hf
        · intro h
          refine ⟨fun j hj => h j (by omega), fun f hf => ?_⟩
          have := h i (by omega) f hf
          rwa [ht, Int.toNat_natCast] at this
    · have hin : i = T.length := by omega
      subst hin
      have hcyc : g = true ↔ CycG T P := by rw [hg, cyc_hit hm12.1]
      clear hg hlt1 hi hlt hk
      have hmt := Nat.mod_lt tn (show 0 < P.length by omega)
      have hmw := Nat.mod_lt wn (show 0 < T.length by omega)
      obtain ⟨ct, hct⟩ : ∃ ct, tn % P.length = ct := ⟨_, rfl⟩
      obtain ⟨cw, hcw⟩ : ∃ cw, wn % T.length = cw := ⟨_, rfl⟩
      rw [hct] at hmt
      rw [hcw] at hmw
      have hti := hTok.mem hmw
      have ht7 := hT7 _ (getD_mem (a := 0) hmw)
      obtain ⟨Q, hQ⟩ : ∃ Q, P.drop ct ++ P.take ct = Q := ⟨_, rfl⟩
      have hQl : Q.length = P.length := by rw [← hQ]; simp; omega
      have hQw : WOK T.length Q := fun z hz => by
        rw [← hQ] at hz
        rcases List.mem_append.1 hz with h | h
        · exact hwok z (List.mem_of_mem_drop h)
        · exact hwok z (List.mem_of_mem_take h)
      have hRw : WOK T.length P.reverse := fun z hz => hwok z (List.mem_reverse.1 hz)
      have hmP := meetE_val hTok (by omega) hm12.1 (by omega) hwok
      have hmQ := meetE_val hTok (by omega) (P := Q) (by omega) (by omega) hQw
      have hmR := meetE_val hTok (by omega) (P := P.reverse) (by simp; omega) (by simp; omega) hRw
      rw [← hQ, cyc_turn_iff hmt, hQ] at hmQ
      rw [cyc_back_iff hTok hm12.1] at hmR
      obtain ⟨Tm, hTm⟩ : ∃ Tm, T.set cw (T.getD cw 0 + 1) = Tm := ⟨_, rfl⟩
      have hTml : Tm.length = T.length := by rw [← hTm, List.length_set]
      have hTmg : ∀ j, j < T.length → Tm.getD j 0 = if j = cw then T.getD cw 0 + 1 else T.getD j 0 := fun j hj => by rw [← hTm, getD_set' hmw]
      have hTokM : TOK Tm := ⟨by omega, fun j hj => by
        have := hTok.mem (show j < T.length by omega)
        rw [hTmg j (by omega)]; split <;> omega, fun j hj => by
        have := hTok.mem (show j < T.length by omega)
        rw [hTmg j (by omega)]; split <;> omega⟩
      have hmM : CycG T P → meetE Tm P = 0 := fun h => (meetE_val hTokM (by omega) hm12.1 (by omega) (by rw [hTml]; exact hwok)).1 (cyc_more hTml (fun j hj => by
        rw [hTmg j hj]
        split
        · rename_i e; subst e; omega
        · exact Int.le_refl _) h)
      obtain ⟨want, hwant⟩ : ∃ want : Int, meetE T P = want := ⟨_, rfl⟩
      have hwQ : meetE T Q = want := by
        rw [← hwant]
        by_cases h : CycG T P
        · rw [hmP.1 h, hmQ.1 h]
        · rw [hmP.2 h, hmQ.2 h]
      have hwR : meetE T P.reverse = want := by
        rw [← hwant]
        by_cases h : CycG T P
        · rw [hmP.1 h, hmR.1 h]
        · rw [hmP.2 h, hmR.2 h]
      have hgw : (g = true → want = 0 ∧ meetE Tm P = 0) ∧ (g = false → want = 14) := by
        rw [← hwant]
        exact ⟨fun h => ⟨hmP.1 (hcyc.1 h), hmM (hcyc.1 h)⟩, fun h => hmP.2 fun h2 => by rw [hcyc.2 h2] at h; cases h⟩
      clear hmP hmQ hmR hmM hcyc
      cases g
      case' true => obtain ⟨hw0, hwM⟩ := hgw.1 rfl
      case' false => have hw0 := hgw.2 rfl
      all_goals
        subst hw0
        repeat' (first | refine zP ?_ | refine zA ?_ | (refine zM ?_; intro _ _) | refine zX ?_ | (refine zC ?_; intro _ _ _ _) | (refine zS ?_; intro _ _) | (apply Ws <;> intro hg))
        refine WR.op (by first | exact gN | exact gS rfl) rfl (OpV.conv u8k i64k rfl (c := (tn : Int)) (IntWalk.i64_in _ (by omega))) ?_
        repeat' (first | refine zP ?_ | refine zA ?_ | (refine zM ?_; intro _ _) | refine zX ?_ | (refine zC ?_; intro _ _ _ _) | (refine zS ?_; intro _ _) | (apply Ws <;> intro hg))
        rw [show (tn : Int) % (P.length : Int) = ((tn % P.length : Nat) : Int) by simp, hct]
        repeat' (first | refine zP ?_ | refine zA ?_ | (refine zM ?_; intro _ _) | refine zX ?_ | (refine zC ?_; intro _ _ _ _) | (refine zS ?_; intro _ _) | (apply Ws <;> intro hg))
        refine WR.cutLo (by first | exact gN | exact gS rfl) rfl rfl hSW rfl (by omega) fun u1 hS1 => ?_
        repeat' (first | refine zP ?_ | refine zA ?_ | (refine zM ?_; intro _ _) | refine zX ?_ | (refine zC ?_; intro _ _ _ _) | (refine zS ?_; intro _ _) | (apply Ws <;> intro hg))
        refine WR.cut0 (by first | exact gN | exact gS rfl) rfl rfl hSW rfl hmt fun u2 hS2 hR2 => ?_
        have ho1 := hS1.one_
        have ho2 := hS2.one_
        refine WR.bldS (by first | exact gN | exact gS rfl) rfl hH3 (vs := [(0, u1), (1, u2)]) rfl (cs := [u1, u2]) (fill2 ho1 ho2) (by (repeat' (first | exact all_nil | refine all_cons (by first | rfl | assumption) ?_))) fun H7 hH7 => ?_
        have hPM : PartsM ((n3, Ch.row 22 0 0 [u1, u2]) :: T1) [u1, u2] [P.drop ct, P.take ct] := by
          refine ⟨rfl, fun i hi => ?_, fun i hi h0 => ?_⟩
          · match i, hi with
            | 0, _ => exact hS1.cons
            | 1, _ => exact hS2.cons
            | i + 2, hi => exact absurd hi (by show ¬ i + 2 < 2; omega)
          · match i, hi, h0 with
            | 0, _, h0 =>
              exfalso
              have h9 := congrArg List.length (show P.drop ct = [] from h0)
              rw [List.length_drop, List.length_nil] at h9; omega
            | 1, _, _ => exact hR2.mono fun q hq => List.mem_cons_of_mem _ hq
            | i + 2, hi, _ => exact absurd hi (by show ¬ i + 2 < 2; omega)
        have hLs : lenS [P.drop ct, P.take ct] = P.length := by simp [lenS]; omega
        have hLf : [P.drop ct, P.take ct].flatten = Q := by rw [← hQ]; simp
        have hSv : Sl ((n3, Ch.row 22 0 0 [u1, u2]) :: T1) 1 (.slice (some ⟨n3, 0, some 0⟩) 2 (2 * 2 + 1)) [u1, u2] :=
          .row (lo := 0) (cs := [u1, u2]) (.head _) (.row _ _ _ _) (Nat.zero_le _) rfl rfl (by simp) (.inr ⟨2, rfl, Nat.le_refl _⟩)
        refine WR.call (by first | exact gN | exact gS rfl) rfl rfl (Concat_fs hH7 hSv hPM (by simp) (by omega) (by omega)) ?_
        rintro _ H8 ⟨qb, n8, rfl, hn8, hH8⟩
        rw [hLs, hLf] at *
        have hSQ : Sl ((qb, Ch.row 3 0 0 (ints Q)) :: (n3, Ch.row 22 0 0 [u1, u2]) :: T1) 1 (.slice (some ⟨qb, 0, some 0⟩) P.length (roomCode 1 P.length)) (ints Q) :=
          .row (lo := 0) (cs := ints Q) (.head _) (.row _ _ _ _) (Nat.zero_le _) (by simp [hQl]) (by rw [Nat.sub_zero, List.drop_zero, List.take_length]) (by simp) (.inl (.inr ⟨P.length, rfl, Nat.le_refl _⟩))
        have hST8 := (hST3.cons (p := (n3, Ch.row 22 0 0 [u1, u2]))).cons (p := (qb, Ch.row 3 0 0 (ints Q)))
        have hSW8 := (hSW.cons (p := (n3, Ch.row 22 0 0 [u1, u2]))).cons (p := (qb, Ch.row 3 0 0 (ints Q)))
        clear hPM hSv hH7
        generalize (qb, Ch.row 3 0 0 (ints Q)) :: (n3, Ch.row 22 0 0 [u1, u2]) :: T1 = T2 at hH8 hSQ hST8 hSW8
        generalize Value.slice (some ⟨qb, 0, some 0⟩) P.length (roomCode 1 P.length) = qv at hSQ ⊢
        repeat' (first | refine zP ?_ | refine zA ?_ | (refine zM ?_; intro _ _) | refine zX ?_ | (refine zC ?_; intro _ _ _ _) | (refine zS ?_; intro _ _) | (apply Ws <;> intro hg))
        refine WR.call (by first | exact gN | exact gS rfl) rfl rfl (CloneX_fs hH8 hSW8 (by omega) hm12.1) ?_
        rintro _ H9 ⟨rb, n9, rfl, hn9, hH9⟩
        repeat' (first | refine zP ?_ | refine zA ?_ | (refine zM ?_; intro _ _) | refine zX ?_ | (refine zC ?_; intro _ _ _ _) | (refine zS ?_; intro _ _) | (apply Ws <;> intro hg))
        refine WR.call (by first | exact gN | exact gS rfl) rfl rfl (Reverse_fs hH9 (by omega)) ?_
        intro _ H10 hH10
        have hSR : Sl ((rb, Ch.row 3 0 0 (ints P.reverse)) :: T2) 1 (.slice (some ⟨rb, 0, some 0⟩) P.length (2 * 1)) (ints P.reverse) :=
          .row (lo := 0) (cs := ints P.reverse) (.head _) (.row _ _ _ _) (Nat.zero_le _) (by simp) (by rw [Nat.sub_zero, List.drop_zero, List.take_length]) (by simp) (.inl (.inl rfl))
        have hST9 := hST8.cons (p := (rb, Ch.row 3 0 0 (ints P.reverse)))
        have hSW9 := hSW8.cons (p := (rb, Ch.row 3 0 0 (ints P.reverse)))
        have hSQ9 := hSQ.cons (p := (rb, Ch.row 3 0 0 (ints P.reverse)))
        clear hH8 hH9 hST8 hSW8 hSQ
        generalize (rb, Ch.row 3 0 0 (ints P.reverse)) :: T2 = T3 at hH10 hSR hST9 hSW9 hSQ9
        generalize Value.slice (some ⟨rb, 0, some 0⟩) P.length (2 * 1) = rv at hSR ⊢
        repeat' (first | refine zP ?_ | refine zA ?_ | (refine zM ?_; intro _ _) | refine zX ?_ | (refine zC ?_; intro _ _ _ _) | (refine zS ?_; intro _ _) | (apply Ws <;> intro hg))
        refine WR.call (by first | exact gN | exact gS rfl) rfl rfl (CloneX_fs hH10 hST9 (by omega) (by omega)) ?_
        rintro _ H11 ⟨mb, n11, rfl, hn11, hH11⟩
        repeat' (first | refine zP ?_ | refine zA ?_ | (refine zM ?_; intro _ _) | refine zX ?_ | (refine zC ?_; intro _ _ _ _) | (refine zS ?_; intro _ _) | (apply Ws <;> intro hg))
        refine WR.op (by first | exact gN | exact gS rfl) rfl (OpV.conv u8k i64k rfl (c := (wn : Int)) (IntWalk.i64_in _ (by omega))) ?_
        repeat' (first | refine zP ?_ | refine zA ?_ | (refine zM ?_; intro _ _) | refine zX ?_ | (refine zC ?_; intro _ _ _ _) | (refine zS ?_; intro _ _) | (apply Ws <;> intro hg))
        rw [show (wn : Int) % (T.length : Int) = ((wn % T.length : Nat) : Int) by simp, hcw]
        repeat' (first | refine zP ?_ | refine zA ?_ | (refine zM ?_; intro _ _) | refine zX ?_ | (refine zC ?_; intro _ _ _ _) | (refine zS ?_; intro _ _) | (apply Ws <;> intro hg))
        rename_i H12 hH12
        replace hH12 : hasH ((mb, .row 3 0 0 (ints Tm)) :: T3) n11 H12 := by rw [← hTm]; exact hH12
        have hSM : Sl ((mb, Ch.row 3 0 0 (ints Tm)) :: T3) 1 (.slice (some ⟨mb, 0, some 0⟩) T.length (2 * 1)) (ints Tm) :=
          .row (lo := 0) (cs := ints Tm) (.head _) (.row _ _ _ _) (Nat.zero_le _) (by simp [hTml]) (by rw [Nat.sub_zero, List.drop_zero, List.take_length]) (by simp) (.inl (.inl rfl))
        have hST10 := hST9.cons (p := (mb, Ch.row 3 0 0 (ints Tm)))
        have hSW10 := hSW9.cons (p := (mb, Ch.row 3 0 0 (ints Tm)))
        have hSQ10 := hSQ9.cons (p := (mb, Ch.row 3 0 0 (ints Tm)))
        have hSR10 := hSR.cons (p := (mb, Ch.row 3 0 0 (ints Tm)))
        clear hH10 hH11 hST9 hSW9 hSQ9 hSR
        generalize (mb, Ch.row 3 0 0 (ints Tm)) :: T3 = T4 at hH12 hSM hST10 hSW10 hSQ10 hSR10
        generalize Value.slice (some ⟨mb, 0, some 0⟩) T.length (2 * 1) = mv at hSM ⊢
        refine WR.call (by first | exact gN | exact gS rfl) rfl rfl (Meets_fs hH12 hST10 (by omega) hSW10 (by omega)) ?_
        rintro _ H13 ⟨n13, hn13, hH13, rfl⟩
        rw [hwant]
        repeat' (first | refine zP ?_ | refine zA ?_ | (refine zM ?_; intro _ _) | refine zX ?_ | (refine zC ?_; intro _ _ _ _) | (refine zS ?_; intro _ _) | refine zO ?_ | (apply Ws <;> intro hg))
        refine WR.call (by first | exact gN | exact gS rfl) rfl rfl (Meets_fs hH13 hST10 (by omega) hSQ10 (by omega)) ?_
        rintro _ H14 ⟨n14, hn14, hH14, rfl⟩
        rw [hwQ]
        repeat' (first | refine zP ?_ | refine zA ?_ | (refine zM ?_; intro _ _) | refine zX ?_ | (refine zC ?_; intro _ _ _ _) | (refine zS ?_; intro _ _) | refine zO ?_ | (apply Ws <;> intro hg))
        refine WR.call (by first | exact gN | exact gS rfl) rfl rfl (Meets_fs hH14 hST10 (by omega) hSR10 (by simp; omega)) ?_
        rintro _ H15 ⟨n15, hn15, hH15, rfl⟩
        rw [hwR]
        repeat' (first | refine zP ?_ | refine zA ?_ | (refine zM ?_; intro _ _) | refine zX ?_ | (refine zC ?_; intro _ _ _ _) | (refine zS ?_; intro _ _) | refine zO ?_ | (apply Ws <;> intro hg))
        try
          refine WR.call (by first | exact gN | exact gS rfl) rfl rfl (Meets_fs hH15 hSM (by omega) hSW10 (by omega)) ?_
          rintro _ H16 ⟨n16, hn16, hH16, rfl⟩
          rw [hwM]
          repeat' (first | refine zP ?_ | refine zA ?_ | (refine zM ?_; intro _ _) | refine zX ?_ | (refine zC ?_; intro _ _ _ _) | (refine zS ?_; intro _ _) | refine zO ?_ | (apply Ws <;> intro hg))
        refine WR.call (by first | exact gN | exact gS rfl) rfl rfl (FS.works (C := C) (R := fun v H' => v = .bool true) rfl) ?_
        rintro _ _ rfl
        repeat' (first | refine zP ?_ | refine zA ?_ | (refine zM ?_; intro _ _) | refine zX ?_ | (refine zC ?_; intro _ _ _ _) | (refine zS ?_; intro _ _) | (apply Ws <;> intro hg))
        exact Ends.ret1 rfl rfl
end
end Go.Proofs.Ytnmlfjohoeebiaa.Wk
