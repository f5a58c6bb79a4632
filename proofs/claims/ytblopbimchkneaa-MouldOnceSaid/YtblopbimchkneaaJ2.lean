/- Texts of the law, joined. -/
import Derived.Test.YtblopbimchkneaaJ1
import Derived.Test.YtblopbimchkneaaSymK
import Derived.Test.YtblopbimchkneaaSymR
namespace Go.Proofs.Ytblopbimchkneaa.Md
open Go Go.Abs Go.Mth
set_option linter.unusedVariables false
set_option linter.unusedSimpArgs false
theorem u8k : C.c.P.underlying 5 = some (.int .u8) := by kernel_rfl
theorem i64k : C.c.P.underlying 3 = some (.int .i64) := by kernel_rfl
abbrev bytesV (hs : List Int) : List Value := hs.map (Value.int .u8)
theorem bytes_one (hs : List Int) : (bytesV hs).all one = true := by simp [bytesV, List.all_map]; exact fun x _ => rfl
theorem bytes_get {hs : List Int} {k : Nat} (h : k < hs.length) : (bytesV hs)[k]? = some (.int .u8 (hs.getD k 0)) := by
  rw [List.getElem?_map, List.getElem?_eq_getElem h, getD_eq h]; rfl
/-- A tray's cells: three bytes, then eight, then six. -/
def trayV (a b c : Int) (hs : List Int) : List Value := .int .u8 a :: .int .u8 b :: .int .u8 c :: bytesV hs
theorem tray_one (a b c : Int) (hs : List Int) : (trayV a b c hs).all one = true := by
  have := bytes_one hs
  simp only [trayV, List.all_cons, this, Bool.and_true]; rfl
theorem tray_get {a b c : Int} {hs : List Int} {k : Nat} (h : k < hs.length) : (trayV a b c hs)[k + 3]? = some (.int .u8 (hs.getD k 0)) := by
  simp only [trayV, List.getElem?_cons_succ]; exact bytes_get h
structure NV where
  k : Nat
  v : Value
  l : List Nat
  Mx : HL
  n : Nat
theorem pow_le_62 {N : Nat} (h : N ≤ 61) : 2 ^ N < 2 ^ 62 := Nat.pow_lt_pow_right (by omega) (by omega)
theorem pow_lt_63 {N : Nat} (h : N ≤ 61) : 2 ^ N < 2 ^ 63 := Nat.pow_lt_pow_right (by omega) (by omega)
attribute [local irreducible] gOK WS WC WR WD Ends FS YS OpV seqK blockK loopK midK retK rdK asgK rangeEnd sat Cell

section
variable {M : HL} {n0 : Nat} {H : Heap}
end
end Go.Proofs.Ytblopbimchkneaa.Md

namespace Go.Proofs.Ytblopbimchkneaa.Md
open Go Go.Abs Go.Mth
set_option linter.unusedVariables false
set_option linter.unusedSimpArgs false
theorem equal_k {P : Program} {e : TypeId} {k : IntKind} (h : P.underlying e = some (.int k)) (a b : Int) (d : Nat) : pureRun P (Op.equalIn (d + 1) e (.int k a) (.int k b)) = some (a == b) := by
  unfold Op.equalIn
  simp only [pureRun_bind, pureRun_underlying P h, Option.bind_some]
  cases k <;> rfl
theorem u85 : ∃ f : Field, C.c.P.underlying 85 = some (.struct #[f]) ∧ f.type = 83 ∧ f.offset = 0 ∧ (f.name == "_") = false := ⟨_, Try.underlying85, rfl, rfl, by decide⟩
theorem eqBear (a b : Int) (d : Nat) : pureRun C.c.P (Op.equalIn (d + 1 + 1) 85 (.agg #[.int .u64 a]) (.agg #[.int .u64 b])) = some (a == b) := by
  obtain ⟨f, h1, h2, h3, h4⟩ := u85
  have h4' : f.name ≠ "_" := by simpa using h4
  have hs : C.c.P.stoodInHeld 85 = false := by kernel_rfl
  have hp : ∀ x : Int, pureRun C.c.P (part 83 #[.int .u64 x] 0) = some (.int .u64 x) := fun x => by kernel_rfl
  have hk := equal_k (P := C.c.P) (e := 83) (k := .u64) (by kernel_rfl)
  have hP : pureRun C.c.P (program : Sem Program) = some C.c.P := rfl
  unfold Op.equalIn
  simp only [pureRun_bind, pureRun_underlying C.c.P h1, Option.bind_some, hP, hs, Bool.false_eq_true, if_false, ← Array.forIn_toList, List.forIn_cons, List.forIn_nil, if_pos h4', h2, h3, hp, hk]
  cases h : (a == b) <;> simp [pureRun_bind, pureRun_pure]
theorem eqBearOp (a b : Int) : pureRun C.c.P (binOp .eql 85 (.agg #[.int .u64 a]) (.agg #[.int .u64 b])) = some (.bool (a == b)) := by
  have := eqBear a b 9998
  show pureRun C.c.P (Op.equal 85 _ _ >>= fun q => (pure (Value.bool q) : Sem Value)) = _
  rw [pureRun_bind]
  show Option.bind (pureRun C.c.P (Op.equalIn (9998 + 1 + 1) 85 _ _)) _ = _
  rw [this]
  simp [pureRun_pure]
theorem eqBearG (x y : Operand) (a b : Int) : pureRun C.c.P (eqGuard .eql 85 x y (.agg #[.int .u64 a]) (.agg #[.int .u64 b])) = some () := by kernel_rfl
theorem eqMark0 (m : Int) : ∀ o : Nat, o < 6 → pureRun C.c.P (binOp .eql 87 (.agg #[.int .i64 (o : Int), .int .u64 m]) (.agg #[.int .i64 (-1), .int .u64 0])) = some (.bool false) := by
  intro o ho
  rcases (show o = 0 ∨ o = 1 ∨ o = 2 ∨ o = 3 ∨ o = 4 ∨ o = 5 by omega) with rfl | rfl | rfl | rfl | rfl | rfl <;> kernel_rfl
theorem eqMark1 : pureRun C.c.P (binOp .eql 87 (.agg #[.int .i64 (-1), .int .u64 0]) (.agg #[.int .i64 (-1), .int .u64 0])) = some (.bool true) := by kernel_rfl
theorem eqMarkG (x y : Operand) (a b c d : Int) : pureRun C.c.P (eqGuard .eql 87 x y (.agg #[.int .i64 a, .int .u64 b]) (.agg #[.int .i64 c, .int .u64 d])) = some () := by kernel_rfl
theorem OpV.eqAgg' {L : Env} {H : Heap} {dst : Option Tmp} {x y : Operand} {ty ty2 ty3 : TypeId} {pos : String} {af : Array Edge} {g : Option (Nat × Bool)} {A B : Array Value} {r : Bool} (e1 : pureRun C.c.P (eqGuard .eql ty x y (.agg A) (.agg B)) = some ()) (e2 : pureRun C.c.P (binOp .eql ty (.agg A) (.agg B)) = some (.bool r))
    (hx : ev L x = some (.agg A)) (hy : ev L y = some (.agg B)) (hA : plainV (.agg A) = true) (hB : plainV (.agg B) = true) :
    OpV C (.plain ⟨dst, .binOp .eql ty x y ty2, ty3, pos, af, g⟩) L H (.bool r) H := by
  refine OpV.plain (fun t ht => ?_) (fun t ht => by simp [Op.operands, ev_ok ht hx, ev_ok ht hy, hA, hB]) rfl
  simp only [pureNext, execOp, ev_ok ht hx, ev_ok ht hy, pureRun_bind, e1, e2, Option.bind_some]
  rfl
end Go.Proofs.Ytblopbimchkneaa.Md

namespace Go.Proofs.Ytblopbimchkneaa.Md
open Go Go.Abs Go.Mth
set_option linter.unusedVariables false
set_option linter.unusedSimpArgs false
def bitN (c a : Nat) : Nat := if c.testBit a = true then 1 else 0
theorem shr_one (c a : Nat) : (c >>> a) &&& 1 = bitN c a := by
  have h1 : (c >>> a) &&& 1 < 2 := by rw [Nat.and_one_is_mod]; exact Nat.mod_lt _ (by omega)
  have h2 := shr_and_one (a := c) (m := a)
  unfold bitN
  split
  · rename_i h; have := h2.2 h; omega
  · rename_i h
    have : ¬ (((c >>> a) &&& 1 : Nat) : Int) = 1 := fun e => h (h2.1 e)
    omega
def kd (c a b : Nat) : Nat := bitN c a + 2 * bitN c b
theorem bitN_lt (c a : Nat) : bitN c a < 2 := by unfold bitN; split <;> omega
theorem kd_lt (c a b : Nat) : kd c a b < 4 := by have := bitN_lt c a; have := bitN_lt c b; unfold kd; omega
/-- Which kinds of casts have been met. -/
def metB (ns : List Nat) (a b k i : Nat) : Bool := (ns.take k).any fun c => kd c a b == i
theorem metB_succ {ns : List Nat} {a b k i : Nat} (h : k < ns.length) : metB ns a b (k + 1) i = (metB ns a b k i || (kd (ns.getD k 0) a b == i)) := by
  unfold metB
  rw [List.take_succ_eq_append_getElem h, List.any_append, getD_eq h]; simp
theorem met_clash (ns : List Nat) (a b : Nat) : clashB ns a b = (metB ns a b ns.length 1 && metB ns a b ns.length 2 && metB ns a b ns.length 3) := by
  have e : ∀ i, metB ns a b ns.length i = ns.any fun c => kd c a b == i := fun i => by rw [metB, List.take_length]
  rw [e, e, e, clashB]
  have e1 : (fun c => kd c a b == 1) = fun c => c.testBit a && !c.testBit b := by
    funext c; unfold kd bitN; cases c.testBit a <;> cases c.testBit b <;> rfl
  have e2 : (fun c => kd c a b == 2) = fun c => !c.testBit a && c.testBit b := by
    funext c; unfold kd bitN; cases c.testBit a <;> cases c.testBit b <;> rfl
  have e3 : (fun c => kd c a b == 3) = fun c => c.testBit a && c.testBit b := by
    funext c; unfold kd bitN; cases c.testBit a <;> cases c.testBit b <;> rfl
  rw [e1, e2, e3]
  cases ns.any (fun c => c.testBit a && c.testBit b) <;> cases ns.any (fun c => c.testBit a && !c.testBit b) <;> cases ns.any (fun c => !c.testBit a && c.testBit b) <;> rfl
structure BL where
  k : Nat
  l : List Bool
attribute [local irreducible] gOK WS WC WR WD Ends FS YS OpV seqK blockK loopK midK retK rdK asgK rangeEnd sat Cell
section
variable {M : HL} {n0 : Nat} {H : Heap} {v : Value} {ns : List Nat}
set_option maxHeartbeats 1000000 in
theorem lclash_fs (hH : hasH M n0 H) (hS : Sl M 1 v (nodes ns)) (hl : ns.length ≤ 1000) (hb : ∀ x ∈ ns, x < 2 ^ 62) {a b : Nat} (ha : a ≤ 61) (hbb : b ≤ 61) :
    FS C 41 [v, .int .i64 (a : Int), .int .i64 (b : Int)] H (fun e H' => e = .bool (clashB ns a b) ∧ ∃ n', n0 ≤ n' ∧ hasH M n' H') := by
  refine FS.intro (pf := pf41) rfl rfl rfl ?_
  repeat' (first | refine zP ?_ | refine zA ?_ | (refine zM ?_; intro _ _) | refine zX ?_ | (refine zC ?_; intro _ _ _ _) | (refine zS ?_; intro _ _) | (apply Ws <;> intro hg))
  rename_i H1 hH1
  have hSc : ∀ {ch : Ch}, Sl ((n0, ch) :: M) 1 v (nodes ns) := hS.cons
  have hS1 := hSc (ch := .row 56 0 0 (bools [false, false, false, false]))
  replace hH1 : hasH ((n0, .row 56 0 0 (bools [false, false, false, false])) :: M) (n0 + 1) H1 := hH1
  repeat' (first | refine zP ?_ | refine zA ?_ | (refine zM ?_; intro _ _) | refine zX ?_ | (refine zC ?_; intro _ _ _ _) | (refine zS ?_; intro _ _) | (apply Ws <;> intro hg))
  refine WC.loopX [(0, _), (1, _), (2, _), (7, _), (10, _), (11, _)] (fun s : BL => [(12, .int .i64 (s.k : Int))]) []
    (fun s H' => s.k ≤ ns.length ∧ s.l.length = 4 ∧ (∀ i, i < 4 → s.l.getD i false = metB ns a b s.k i) ∧ hasH ((n0, .row 56 0 0 (bools s.l)) :: M) (n0 + 1) H') (fun s => ns.length - s.k) ⟨0, [false, false, false, false]⟩ (by repeat' (first | exact .nil | refine .cons rfl ?_)) rfl
    ⟨Nat.zero_le _, rfl, fun i hi => by match i, hi with | 0, _ | 1, _ | 2, _ | 3, _ => rfl, hH1⟩ ?_
  rintro ⟨k, l⟩ H2 ⟨hk, hll, hm, hH2⟩
  simp only at hk hll hm hH2
  have hS2 := hSc (ch := .row 56 0 0 (bools l))
  clear hH1 hS1
  dsimp only [List.cons_append, List.nil_append]
  repeat' (first | refine zP ?_ | refine zA ?_ | (refine zM ?_; intro _ _) | refine zX ?_ | (refine zC ?_; intro _ _ _ _) | (refine zS ?_; intro _ _) | (apply Ws <;> intro hg))
  refine WC.condP rfl (fun hlt => ?_) (fun hlt => ?_)
  · have hk' : k < ns.length := by omega
    have hx := hb _ (getD_mem (a := 0) hk')
    repeat' (first | refine zP ?_ | refine zA ?_ | (refine zM ?_; intro _ _) | refine zX ?_ | (refine zC ?_; intro _ _ _ _) | (refine zS ?_; intro _ _) | (apply Ws <;> intro hg))
    obtain ⟨c, hc⟩ : ∃ c, ns.getD k 0 = c := ⟨_, rfl⟩
    rw [hc] at hx ⊢
    have hsh : ∀ m, c >>> m < 2 ^ 63 := fun m => Nat.lt_of_le_of_lt (Nat.shiftRight_le c m) (by omega)
    refine WR.op (by first | exact gN | exact gS rfl) rfl (OpV.shrN rfl rfl (by show a ≤ 64; omega)) ?_
    refine WR.op (by first | exact gN | exact gS rfl) rfl (OpV.andN (b := 1) rfl rfl (hsh a) (by decide)) ?_
    repeat' (first | refine zP ?_ | refine zA ?_ | (refine zM ?_; intro _ _) | refine zX ?_ | (refine zC ?_; intro _ _ _ _) | (refine zS ?_; intro _ _) | (apply Ws <;> intro hg))
    refine WR.op (by first | exact gN | exact gS rfl) rfl (OpV.shrN rfl rfl (by show b ≤ 64; omega)) ?_
    refine WR.op (by first | exact gN | exact gS rfl) rfl (OpV.andN (b := 1) rfl rfl (hsh b) (by decide)) ?_
    rw [shr_one, shr_one]
    have h1 := bitN_lt c a
    have h2 := bitN_lt c b
    have h4 := kd_lt c a b
    have hkd : kd c a b = bitN c a + 2 * bitN c b := rfl
    obtain ⟨x, hx1⟩ : ∃ x, bitN c a = x := ⟨_, rfl⟩
    obtain ⟨y, hy1⟩ : ∃ y, bitN c b = y := ⟨_, rfl⟩
    obtain ⟨z, hz1⟩ : ∃ z, kd c a b = z := ⟨_, rfl⟩
    rw [hz1] at h4 hkd
    rw [hx1, hy1] at hkd
    rw [hx1] at h1 ⊢
    rw [hy1] at h2 ⊢
    repeat' (first | refine zP ?_ | refine zA ?_ | (refine zM ?_; intro _ _) | refine zX ?_ | (refine zC ?_; intro _ _ _ _) | (refine zS ?_; intro _ _) | (apply Ws <;> intro hg))
    rw [show (x : Int) + 2 * (y : Int) = ((z : Nat) : Int) by omega]
    repeat' (first | refine zP ?_ | refine zA ?_ | (refine zM ?_; intro _ _) | refine zX ?_ | (refine zC ?_; intro _ _ _ _) | (refine zS ?_; intro _ _) | (apply Ws <;> intro hg))
    rename_i H3 hH3
    refine Ends.loop ⟨k + 1, l.set z true⟩ (by show ns.length - (k + 1) < ns.length - k; omega) (by repeat' (first | exact .nil | refine .cons rfl ?_)) rfl ⟨hk', by simpa using hll, fun i hi => ?_, hH3⟩
    simp only
    rw [getD_set' (by omega), metB_succ hk', hc, hz1, ← hm i hi]
    by_cases h : i = z
    · rw [if_pos h, h]; simp
    · rw [if_neg h]; simp [show ¬ z = i from fun e => h e.symm]
  · have hkl : k = ns.length := by omega
    subst hkl
    rw [met_clash, ← hm 1 (by omega), ← hm 2 (by omega), ← hm 3 (by omega)]
    obtain ⟨b0, b1, b2, b3, rfl⟩ : ∃ b0 b1 b2 b3, l = [b0, b1, b2, b3] := by
      match l, hll with
      | [b0, b1, b2, b3], _ => exact ⟨b0, b1, b2, b3, rfl⟩
    have hback := hH2.tail
    cases b1 with
    | false =>
      repeat' (first | refine zP ?_ | refine zA ?_ | (refine zM ?_; intro _ _) | refine zX ?_ | (refine zC ?_; intro _ _ _ _) | (refine zS ?_; intro _ _) | (apply Ws <;> intro hg))
      exact Ends.ret1 rfl ⟨rfl, n0 + 1, by omega, hback⟩
    | true =>
      cases b2 with
      | false =>
        repeat' (first | refine zP ?_ | refine zA ?_ | (refine zM ?_; intro _ _) | refine zX ?_ | (refine zC ?_; intro _ _ _ _) | (refine zS ?_; intro _ _) | (apply Ws <;> intro hg))
        exact Ends.ret1 rfl ⟨rfl, n0 + 1, by omega, hback⟩
      | true =>
        repeat' (first | refine zP ?_ | refine zA ?_ | (refine zM ?_; intro _ _) | refine zX ?_ | (refine zC ?_; intro _ _ _ _) | (refine zS ?_; intro _ _) | (apply Ws <;> intro hg))
        exact Ends.ret1 rfl ⟨by cases b3 <;> rfl, n0 + 1, by omega, hback⟩
theorem lhonest_fs (hH : hasH M n0 H) (hS : Sl M 1 v (nodes ns)) (hl : ns.length ≤ 1000) (hb : ∀ x ∈ ns, x < 2 ^ 62) {N : Nat} (hN : N ≤ 61) :
    FS C 40 [.int .i64 (N : Int), v] H (fun e H' => e = .bool (honB N ns) ∧ ∃ n', n0 ≤ n' ∧ hasH M n' H') := by
  refine FS.intro (pf := pf40) rfl rfl rfl ?_
  repeat' (first | refine zP ?_ | refine zA ?_ | (refine zM ?_; intro _ _) | refine zX ?_ | (refine zC ?_; intro _ _ _ _) | (refine zS ?_; intro _ _) | (apply Ws <;> intro hg))
  refine WC.loopX [(0, _), (1, _), (7, _)] (fun s : Nat × Nat => [(8, .int .i64 (s.1 : Int))]) [] (fun s H' => s.1 ≤ N ∧ n0 ≤ s.2 ∧ hasH M s.2 H' ∧ ∀ x y, x < s.1 → y < x → clashB ns x y = false) (fun s => N - s.1) (0, n0) (by repeat' (first | exact .nil | refine .cons rfl ?_)) rfl ⟨Nat.zero_le _, Nat.le_refl _, hH, fun x y h => absurd h (Nat.not_lt_zero _)⟩ ?_
  clear hH
  rintro ⟨k, n1⟩ H1 ⟨hk, hn1, hH1, hno⟩
  simp only at hk hn1 hH1 hno
  dsimp only [List.cons_append, List.nil_append]
  repeat' (first | refine zP ?_ | refine zA ?_ | (refine zM ?_; intro _ _) | refine zX ?_ | (refine zC ?_; intro _ _ _ _) | (refine zS ?_; intro _ _) | (apply Ws <;> intro hg))
  refine WC.condP rfl (fun hlt => ?_) (fun hlt => ?_)
  · have hk' : k < N := by omega
    repeat' (first | refine zP ?_ | refine zA ?_ | (refine zM ?_; intro _ _) | refine zX ?_ | (refine zC ?_; intro _ _ _ _) | (refine zS ?_; intro _ _) | (apply Ws <;> intro hg))
    refine WC.loopX [(0, _), (1, _), (5, _), (7, _), (8, _), (11, _)] (fun s : Nat × Nat => [(12, .int .i64 (s.1 : Int))]) [] (fun s H' => s.1 ≤ k ∧ n0 ≤ s.2 ∧ hasH M s.2 H' ∧ ∀ y, y < s.1 → clashB ns k y = false) (fun s => k - s.1) (0, n1) (by repeat' (first | exact .nil | refine .cons rfl ?_)) rfl ⟨Nat.zero_le _, hn1, hH1, fun x h => absurd h (Nat.not_lt_zero _)⟩ ?_
    clear hH1
    rintro ⟨j, n2⟩ H2 ⟨hj, hn2, hH2, hno2⟩
    simp only at hj hn2 hH2 hno2
    dsimp only [List.cons_append, List.nil_append]
    repeat' (first | refine zP ?_ | refine zA ?_ | (refine zM ?_; intro _ _) | refine zX ?_ | (refine zC ?_; intro _ _ _ _) | (refine zS ?_; intro _ _) | (apply Ws <;> intro hg))
    refine WC.condP rfl (fun hlt2 => ?_) (fun hlt2 => ?_)
    · have hj' : j < k := by omega
      repeat' (first | refine zP ?_ | refine zA ?_ | (refine zM ?_; intro _ _) | refine zX ?_ | (refine zC ?_; intro _ _ _ _) | (refine zS ?_; intro _ _) | (apply Ws <;> intro hg))
      refine WR.call (by first | exact gN | exact gS rfl) rfl rfl (lclash_fs hH2 hS hl hb (a := k) (b := j) (by omega) (by omega)) ?_
      rintro _ H3 ⟨rfl, n3, hn3, hH3⟩
      cases h1 : clashB ns k j with
      | true =>
        repeat' (first | refine zP ?_ | refine zA ?_ | (refine zM ?_; intro _ _) | refine zX ?_ | (refine zC ?_; intro _ _ _ _) | (refine zS ?_; intro _ _) | (apply Ws <;> intro hg))
        refine Ends.ret1 rfl ⟨?_, n3, by omega, hH3⟩
        cases hh : honB N ns with
        | false => rfl
        | true => have := hon_iff.1 hh j k hj' hk'; rw [clash_comm, h1] at this; cases this
      | false =>
        repeat' (first | refine zP ?_ | refine zA ?_ | (refine zM ?_; intro _ _) | refine zX ?_ | (refine zC ?_; intro _ _ _ _) | (refine zS ?_; intro _ _) | (apply Ws <;> intro hg))
        refine Ends.loop (j + 1, n3) (by show k - (j + 1) < k - j; omega) (by repeat' (first | exact .nil | refine .cons rfl ?_)) rfl ⟨hj', by simp only; omega, hH3, fun y h2 => ?_⟩
        replace h2 : y < j + 1 := h2
        rcases Nat.lt_or_ge y j with h4 | h4
        · exact hno2 y h4
        · have : y = j := by omega
          subst this; exact h1
    · repeat' (first | refine zP ?_ | refine zA ?_ | (refine zM ?_; intro _ _) | refine zX ?_ | (refine zC ?_; intro _ _ _ _) | (refine zS ?_; intro _ _) | (apply Ws <;> intro hg))
      refine Ends.loop (k + 1, n2) (by show N - (k + 1) < N - k; omega) (by repeat' (first | exact .nil | refine .cons rfl ?_)) rfl ⟨hk', hn2, hH2, fun x y h1 h2 => ?_⟩
      replace h1 : x < k + 1 := h1
      rcases Nat.lt_or_ge x k with h4 | h4
      · exact hno x y h4 h2
      · have : x = k := by omega
        subst this; exact hno2 y (by omega)
  · repeat' (first | refine zP ?_ | refine zA ?_ | (refine zM ?_; intro _ _) | refine zX ?_ | (refine zC ?_; intro _ _ _ _) | (refine zS ?_; intro _ _) | (apply Ws <;> intro hg))
    refine Ends.ret1 rfl ⟨?_, n1, hn1, hH1⟩
    have : honB N ns = true := hon_iff.2 fun a b h1 h2 => by rw [clash_comm]; exact hno b a (by omega) h1
    rw [this]
end
end Go.Proofs.Ytblopbimchkneaa.Md

namespace Go.Proofs.Ytblopbimchkneaa.Md
open Go Go.Abs Go.Mth
set_option linter.unusedVariables false
set_option linter.unusedSimpArgs false
/-! Models. -/
def xorL (ns : List Nat) (m : Nat) : List Nat := ns.map fun c => c ^^^ m
def fourP (ns : List Nat) (a b : Nat) : Prop := ∀ p q : Bool, ∃ c ∈ ns, c.testBit a = p ∧ c.testBit b = q
/-- The first number of which something holds. -/
def LM (P : Nat → Bool) (B : Nat) (r : Int) : Prop := (∃ k : Nat, k < B ∧ P k = true ∧ (∀ j, j < k → P j = false) ∧ r = k) ∨ ((∀ j, j < B → P j = false) ∧ r = -1)
theorem LM.unique {P : Nat → Bool} {B : Nat} {r s : Int} (h : LM P B r) (h' : LM P B s) : r = s := by
  rcases h with ⟨k, h1, h2, h3, rfl⟩ | ⟨h1, rfl⟩ <;> rcases h' with ⟨k', g1, g2, g3, rfl⟩ | ⟨g1, rfl⟩
  · rcases Nat.lt_trichotomy k k' with h | h | h
    · rw [g3 k h] at h2; cases h2
    · rw [h]
    · rw [h3 k' h] at g2; cases g2
  · rw [g1 k h1] at h2; cases h2
  · rw [h1 k' g1] at g2; cases g2
  · rfl
def ModR (N : Nat) (ns : List Nat) (k e : Int) : Prop := ∃ r, LM (fun m => honB N (xorL ns m)) (2 ^ N) r ∧ k = (if r < 0 then 0 else r) ∧ e = if r < 0 then 12 else 0
attribute [local irreducible] gOK WS WC WR WD Ends FS YS OpV seqK blockK loopK midK retK rdK asgK rangeEnd sat Cell
section
variable {M : HL} {n0 : Nat} {H : Heap} {v : Value} {ns : List Nat}
end
end Go.Proofs.Ytblopbimchkneaa.Md

/- Comparisons of numbers and of lists. -/
namespace Go.Mth
set_option linter.unusedVariables false
def cmpI (a b : Int) : Int := if a < b then -1 else if b < a then 1 else 0
def lexC : List Int → List Int → Int
  | [], [] => 0
  | [], _ :: _ => -1
  | _ :: _, [] => 1
  | a :: l, b :: m => if cmpI a b ≠ 0 then cmpI a b else lexC l m
/-- The shorter one first; of those that are as long, the smaller one. -/
def ordC (a b : List Int) : Int := if cmpI a.length b.length ≠ 0 then cmpI a.length b.length else lexC a b
theorem cmp_neg {a b : Int} : cmpI b a = - cmpI a b := by unfold cmpI; split <;> split <;> (try split) <;> omega
theorem cmp_zero {a b : Int} : cmpI a b = 0 ↔ a = b := by unfold cmpI; split <;> (try split) <;> omega
theorem lex_neg : ∀ a b : List Int, lexC b a = - lexC a b
  | [], [] => rfl
  | [], _ :: _ => rfl
  | _ :: _, [] => rfl
  | a :: l, b :: m => by
    have h1 := cmp_neg (a := a) (b := b)
    have h2 := lex_neg l m
    simp only [lexC, h2]
    split <;> split <;> omega
theorem lex_zero : ∀ a b : List Int, lexC a b = 0 ↔ a = b
  | [], [] => by simp [lexC]
  | [], _ :: _ => by simp [lexC]
  | _ :: _, [] => by simp [lexC]
  | a :: l, b :: m => by
    have h1 := cmp_zero (a := a) (b := b)
    have h2 := lex_zero l m
    rw [lexC, List.cons.injEq]
    by_cases h : cmpI a b = 0
    · rw [if_neg (by simp [h]), h2, ← h1]; simp [h]
    · rw [if_pos h]; simp [h, ← h1]
theorem ord_neg (a b : List Int) : ordC b a = - ordC a b := by
  have h1 := cmp_neg (a := (a.length : Int)) (b := b.length)
  have h2 := lex_neg a b
  unfold ordC
  split <;> split <;> omega
theorem ord_zero (a b : List Int) : ordC a b = 0 ↔ a = b := by
  have h1 := cmp_zero (a := (a.length : Int)) (b := b.length)
  have h2 := lex_zero a b
  unfold ordC
  by_cases h : cmpI a.length b.length = 0
  · rw [if_neg (by simp [h]), h2]
  · rw [if_pos h]
    refine ⟨fun h3 => absurd h3 h, fun h3 => absurd (h1.2 (by rw [h3])) h⟩
end Go.Mth

namespace Go.Proofs.Ytblopbimchkneaa.Md
open Go Go.Abs Go.Mth
set_option linter.unusedVariables false
set_option linter.unusedSimpArgs false
/-! Sets as bits, and the least of them. -/
abbrev IL (l : List Nat) : List Int := l.map fun (x : Nat) => (x : Int)
def bitsL (s k : Nat) : List Nat := (List.range k).filter fun i => s.testBit i
theorem mem_bits {s k i : Nat} : i ∈ bitsL s k ↔ i < k ∧ s.testBit i = true := by rw [bitsL, List.mem_filter, List.mem_range]
/-- The least of the sets of which something holds, as a list. -/
def LeastR (n : Nat) (P : Nat → Bool) (r : List Nat) : Prop := ∃ s, s < 2 ^ n ∧ P s = true ∧ r = bitsL s n ∧ ∀ t, t < 2 ^ n → P t = true → ¬ ordC (IL (bitsL t n)) (IL r) < 0
theorem IL_inj {l m : List Nat} (h : IL l = IL m) : l = m := by
  have : (IL l).map Int.toNat = (IL m).map Int.toNat := by rw [h]
  rwa [cast_toNat, cast_toNat] at this
theorem LeastR.unique {n : Nat} {P : Nat → Bool} {r q : List Nat} (h : LeastR n P r) (h' : LeastR n P q) : r = q := by
  obtain ⟨s, h1, h2, rfl, h4⟩ := h
  obtain ⟨t, g1, g2, rfl, g4⟩ := h'
  have e1 := h4 t g1 g2
  have e2 := g4 s h1 h2
  rw [ord_neg] at e1
  exact IL_inj ((ord_zero _ _).1 (by omega))
theorem ord_nil {l : List Int} : ¬ ordC l [] < 0 := by
  unfold ordC
  cases l with
  | nil => simp [cmpI, lexC]
  | cons a l =>
    have : cmpI ((a :: l).length : Int) (([] : List Int).length : Int) = 1 := by
      unfold cmpI; simp; omega
    rw [this]; simp
theorem LeastR.nil {n : Nat} {P : Nat → Bool} {r : List Nat} (h : LeastR n P r) : r = [] ↔ P 0 = true := by
  have hp := Nat.two_pow_pos n
  have h0 : bitsL 0 n = [] := by
    rw [bitsL, List.filter_eq_nil_iff]; intro a _; simp
  constructor
  · intro hr
    obtain ⟨s, h1, h2, h3, h4⟩ := h
    have : s = 0 := Nat.eq_of_testBit_eq fun i => by
      rw [Nat.zero_testBit]
      cases hb : s.testBit i with
      | false => rfl
      | true =>
        have hi : i < n := by
          rcases Nat.lt_or_ge i n with h5 | h5
          · exact h5
          · rw [Nat.testBit_lt_two_pow (Nat.lt_of_lt_of_le h1 (Nat.pow_le_pow_right (by omega) h5))] at hb; cases hb
        have : i ∈ bitsL s n := mem_bits.2 ⟨hi, hb⟩
        rw [← h3, hr] at this; cases this
    rw [← this]; exact h2
  · intro hP
    refine h.unique ⟨0, hp, hP, h0.symm, fun t _ _ => ?_⟩
    exact ord_nil
structure FW where
  k : Nat
  v : Value
  s : Nat
  Mx : HL
  n : Nat
attribute [local irreducible] gOK WS WC WR WD Ends FS YS OpV seqK blockK loopK midK retK rdK asgK rangeEnd sat Cell

section
variable {M : HL} {n0 : Nat} {H : Heap} {v w : Value}
end
end Go.Proofs.Ytblopbimchkneaa.Md
