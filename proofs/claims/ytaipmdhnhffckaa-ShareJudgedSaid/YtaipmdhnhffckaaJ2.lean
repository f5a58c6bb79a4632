/- Texts of the law, joined. -/
import Derived.Test.YtaipmdhnhffckaaJ1
import Derived.Test.YtaipmdhnhffckaaSymK
import Derived.Test.YtaipmdhnhffckaaSymG
import Derived.Test.YtaipmdhnhffckaaSymR
/- What the program's functions on shares come to. -/
namespace Go.Abs
variable [Globs]
theorem Ends.ret3 {L : Env} {H : Heap} {a b c : Nat} {v u w : Value} {R : Value → Heap → Prop} (hx : ev L (.tmp a) = some v) (hy : ev L (.tmp b) = some u) (hz : ev L (.tmp c) = some w) (h : R (.tuple #[v, u, w]) H) : Ends (retK [.tmp a, .tmp b, .tmp c] R) .ret L [] H := by
  refine Ends.ret_of trivial fun t ht => ⟨_, H, ?_, h⟩
  simp only [takeAll, leaveC, resultOf, ev_ok ht hx, ev_ok ht hy, ev_ok ht hz, retVal]
end Go.Abs
namespace Go.Proofs.Ytaipmdhnhffckaa.Sh
open Go Go.Abs Go.Mth
set_option linter.unusedVariables false
set_option linter.unusedSimpArgs false
theorem eqlB : ∀ a b : Bool, pureRun C.c.P (binOp .eql 4 (.bool a) (.bool b)) = some (.bool (a == b)) := by
  intro a b
  cases a <;> cases b <;> kernel_rfl
abbrev u64s (l : List Nat) : List Value := numsK .u64 l
theorem lt_pow {s k : Nat} (h : s < 2 ^ k) (hk : k ≤ 62) : s < 2 ^ 62 := Nat.lt_of_lt_of_le h (Nat.pow_le_pow_right (by omega) hk)
/-- Values: a slice of slices of numbers. -/
def RowsN (M : HL) (ws : List Value) (vs : List (List Nat)) : Prop := ws.length = vs.length ∧ ∀ i, i < vs.length → Sl M 1 (ws.getD i undef) (nodes (vs.getD i []))
theorem RowsN.mono {M M' : HL} {ws : List Value} {vs : List (List Nat)} (h : RowsN M ws vs) (k : ∀ p ∈ M, p ∈ M') : RowsN M' ws vs := ⟨h.1, fun i hi => (h.2 i hi).mono k⟩
theorem RowsN.cons {M : HL} {p : Nat × Ch} {ws : List Value} {vs : List (List Nat)} (h : RowsN M ws vs) : RowsN (p :: M) ws vs := h.mono fun q hq => List.mem_cons_of_mem _ hq
structure ValsN (M : HL) (v : Value) (vs : List (List Nat)) : Prop where
  ex : ∃ ws, Sl M 1 v ws ∧ RowsN M ws vs
theorem ValsN.mono {M M' : HL} {v : Value} {vs : List (List Nat)} (h : ValsN M v vs) (k : ∀ p ∈ M, p ∈ M') : ValsN M' v vs := by
  obtain ⟨ws, h1, h2⟩ := h.ex
  exact ⟨ws, h1.mono k, h2.mono k⟩
theorem ValsN.cons {M : HL} {p : Nat × Ch} {v : Value} {vs : List (List Nat)} (h : ValsN M v vs) : ValsN (p :: M) v vs := h.mono fun q hq => List.mem_cons_of_mem _ hq
theorem ValsN.one_ {M : HL} {v : Value} {vs : List (List Nat)} (h : ValsN M v vs) : one v = true := by obtain ⟨ws, h1, _⟩ := h.ex; exact h1.one_
theorem map_getD {α β : Type} {g : α → β} {l : List α} {i : Nat} {a : α} {b : β} (h : i < l.length) : (l.map g).getD i b = g (l.getD i a) := by
  rw [getD_eq (by simpa using h), List.getElem_map, getD_eq h]
theorem ValsN.rows {M : HL} {v : Value} {vs : List (List Nat)} (h : ValsN M v vs) : RowsI M v (vs.map fun l => l.map fun (x : Nat) => (x : Int)) := by
  obtain ⟨ws, h1, h2, h3⟩ := h.ex
  refine ⟨ws, h1, by rw [h2, List.length_map], fun i hi => ?_⟩
  rw [List.length_map] at hi
  rw [map_getD hi, ← nodesI]
  exact h3 i hi
theorem RowsI.vals {M : HL} {v : Value} {vs : List (List Nat)} (h : RowsI M v (vs.map fun l => l.map fun (x : Nat) => (x : Int))) : ValsN M v vs := by
  obtain ⟨ws, h1, h2, h3⟩ := h
  rw [List.length_map] at h2
  refine ⟨ws, h1, h2, fun i hi => ?_⟩
  have := h3 i (by simpa using hi)
  rwa [map_getD hi, ← nodesI] at this
/-- What is left of a share, one thing taken out. -/
def lessN (s j : Nat) : Nat := s ^^^ (s &&& 2 ^ j)
def restsTo (s k : Nat) : List Nat := ((List.range k).filter fun j => s.testBit j).map (lessN s)
theorem rests_yes {s k : Nat} (h : s.testBit k = true) : restsTo s (k + 1) = restsTo s k ++ [lessN s k] := by
  rw [restsTo, List.range_succ, List.filter_append, List.filter_cons_of_pos (by exact h), List.map_append]; rfl
theorem rests_no {s k : Nat} (h : s.testBit k = false) : restsTo s (k + 1) = restsTo s k := by
  rw [restsTo, List.range_succ, List.filter_append, List.filter_cons_of_neg (by rw [h]; simp), List.filter_nil, List.append_nil]; rfl
theorem rests_len (s k : Nat) : (restsTo s k).length ≤ k := by rw [restsTo, List.length_map]; exact Nat.le_trans (List.length_filter_le _ _) (by simp)
/-- Envy by more than one thing, as the program asks it. -/
theorem much_rests {f : List Nat} {own s m : Nat} (hf : f.length = m) (hm : m ≤ 6) (hs : s < 2 ^ m) : muchB f own s = (decide (0 < (restsTo s 6).length) && !((restsTo s 6).map (envB f own)).any (· == false)) := by
  have hb : ∀ k, s.testBit k = true → k < m := fun k hk => by
    rcases Nat.lt_or_ge k m with h | h
    · exact h
    · rw [Nat.testBit_lt_two_pow (Nat.lt_of_lt_of_le hs (Nat.pow_le_pow_right (by omega) h))] at hk; cases hk
  have hmem : ∀ x, x ∈ restsTo s 6 ↔ ∃ k, k < 6 ∧ s.testBit k = true ∧ x = lessN s k := fun x => by
    simp only [restsTo, List.mem_map, List.mem_filter, List.mem_range]
    exact ⟨fun ⟨k, ⟨h1, h2⟩, h3⟩ => ⟨k, h1, h2, h3.symm⟩, fun ⟨k, h1, h2, h3⟩ => ⟨k, ⟨h1, h2⟩, h3.symm⟩⟩
  have hw : ∀ k, s.testBit k = true → wor f (lessN s k) + f.getD k 0 = wor f s := fun k hk => wor_less hk (by rw [hf]; exact hb k hk)
  rw [Bool.eq_iff_iff, much_iff, Bool.and_eq_true, decide_eq_true_eq, Bool.not_eq_true', List.any_eq_false]
  simp only [List.mem_map, beq_iff_eq, forall_exists_index, and_imp, forall_apply_eq_imp_iff₂, Bool.not_eq_false]
  constructor
  · rintro ⟨h1, h2⟩
    refine ⟨?_, fun x hx => ?_⟩
    · have : s ≠ 0 := by intro h; rw [h, wor_zero] at h1; omega
      obtain ⟨k, hk⟩ := Nat.exists_testBit_of_ne_zero this
      exact List.length_pos_of_mem ((hmem _).2 ⟨k, by have := hb k hk; omega, hk, rfl⟩)
    · obtain ⟨k, hk, hbk, rfl⟩ := (hmem x).1 hx
      have := h2 k hk hbk
      have := hw k hbk
      exact decide_eq_true (by omega)
  · rintro ⟨h1, h2⟩
    have key : ∀ k, k < 6 → s.testBit k = true → wor f own < wor f (lessN s k) := fun k hk hbk => of_decide_eq_true (h2 _ ((hmem _).2 ⟨k, hk, hbk, rfl⟩))
    refine ⟨?_, fun k hk hbk => ?_⟩
    · obtain ⟨x, hx⟩ := List.exists_mem_of_length_pos h1
      obtain ⟨k, hk, hbk, rfl⟩ := (hmem x).1 hx
      have := key k hk hbk
      have := hw k hbk
      omega
    · have := key k hk hbk
      have := hw k hbk
      omega
attribute [local irreducible] gOK WS WC WR WD Ends FS YS OpV seqK blockK loopK midK retK rdK asgK rangeEnd sat Cell

theorem only_fs {j : Nat} (hj : j ≤ 62) (H : Heap) : FS C 112 [.int .i64 (j : Int)] H (fun e H' => e = .int .u64 ((2 ^ j : Nat) : Int) ∧ H' = H) := by
  have hp : 2 ^ j < 2 ^ 64 := Nat.pow_lt_pow_right (by omega) (by omega)
  refine FS.intro (pf := pf112) rfl rfl rfl ?_
  repeat' (first | refine zP ?_ | refine zA ?_ | (refine zM ?_; intro _ _) | refine zX ?_ | (refine zC ?_; intro _ _ _ _) | (refine zS ?_; intro _ _) | (apply Ws <;> intro hg))
  refine WR.op (by first | exact gN | exact gS rfl) rfl (OpV.shl1 rfl rfl (by show j ≤ 64; omega) hp) ?_
  repeat' (first | refine zP ?_ | refine zA ?_ | (refine zM ?_; intro _ _) | refine zX ?_ | (refine zC ?_; intro _ _ _ _) | (refine zS ?_; intro _ _) | (apply Ws <;> intro hg))
  exact Ends.ret1 rfl ⟨rfl, rfl⟩
theorem has_fs {s j : Nat} (hs : s < 2 ^ 62) (hj : j ≤ 61) (H : Heap) : FS C 104 [.int .u64 (s : Int), .int .i64 (j : Int)] H (fun e H' => e = .bool (s.testBit j) ∧ H' = H) := by
  refine FS.intro (pf := pf104) rfl rfl rfl ?_
  repeat' (first | refine zP ?_ | refine zA ?_ | (refine zM ?_; intro _ _) | refine zX ?_ | (refine zC ?_; intro _ _ _ _) | (refine zS ?_; intro _ _) | (apply Ws <;> intro hg))
  refine WR.call (by first | exact gN | exact gS rfl) rfl rfl (only_fs (by omega) _) ?_
  rintro _ H1 ⟨rfl, rfl⟩
  repeat' (first | refine zP ?_ | refine zA ?_ | (refine zM ?_; intro _ _) | refine zX ?_ | (refine zC ?_; intro _ _ _ _) | (refine zS ?_; intro _ _) | (apply Ws <;> intro hg))
  refine WR.op (by first | exact gN | exact gS rfl) rfl (OpV.andN rfl rfl (by show s < 2 ^ 64; omega) (by show 2 ^ j < 2 ^ 64; exact Nat.pow_lt_pow_right (by omega) (by omega))) ?_
  repeat' (first | refine zP ?_ | refine zA ?_ | (refine zM ?_; intro _ _) | refine zX ?_ | (refine zC ?_; intro _ _ _ _) | (refine zS ?_; intro _ _) | (apply Ws <;> intro hg))
  refine Ends.ret1 rfl ⟨?_, rfl⟩
  congr 1
  rw [Bool.eq_iff_iff, decide_eq_true_eq, and_pow_ne]

section
variable {M : HL} {n0 : Nat} {H : Heap} {v w : Value}
theorem worth_fs (hH : hasH M n0 H) {f : List Nat} (hS : Sl M 1 v (nodes f)) (hl : f.length ≤ 6) (hb : ∀ x ∈ f, x ≤ 20) {s : Nat} (hs : s < 2 ^ 62) :
    FS C 72 [v, .int .u64 (s : Int)] H (fun e H' => e = .int .i64 (wor f s : Nat) ∧ H' = H) := by
  refine FS.intro (pf := pf72) rfl rfl rfl ?_
  repeat' (first | refine zP ?_ | refine zA ?_ | (refine zM ?_; intro _ _) | refine zX ?_ | (refine zC ?_; intro _ _ _ _) | (refine zS ?_; intro _ _) | (apply Ws <;> intro hg))
  refine WC.loopX [(0, _), (1, _), (8, _), (9, _)] (fun k : Nat => [(5, .int .i64 (worTo f s k : Nat)), (10, .int .i64 (k : Int))]) [] (fun k H' => H' = H ∧ k ≤ f.length) (fun k => f.length - k) 0 (by repeat' (first | exact .nil | refine .cons rfl ?_)) rfl ⟨rfl, Nat.zero_le _⟩ ?_
  rintro k H' ⟨rfl, hk⟩
  dsimp only [List.cons_append, List.nil_append]
  repeat' (first | refine zP ?_ | refine zA ?_ | (refine zM ?_; intro _ _) | refine zX ?_ | (refine zC ?_; intro _ _ _ _) | (refine zS ?_; intro _ _) | (apply Ws <;> intro hg))
  refine WC.condP rfl (fun hlt => ?_) (fun hlt => ?_)
  · have hk' : k < f.length := by omega
    have hle := worTo_le hb (s := s) k
    have hx := getD_le hb k
    repeat' (first | refine zP ?_ | refine zA ?_ | (refine zM ?_; intro _ _) | refine zX ?_ | (refine zC ?_; intro _ _ _ _) | (refine zS ?_; intro _ _) | (apply Ws <;> intro hg))
    refine WR.call (by first | exact gN | exact gS rfl) rfl rfl (has_fs hs (by omega) _) ?_
    rintro _ _ ⟨rfl, rfl⟩
    have he : worTo f s (k + 1) = worTo f s k + (if s.testBit k = true then f.getD k 0 else 0) := rfl
    cases h1 : s.testBit k with
    | true =>
      rw [h1, if_pos rfl] at he
      repeat' (first | refine zP ?_ | refine zA ?_ | (refine zM ?_; intro _ _) | refine zX ?_ | (refine zC ?_; intro _ _ _ _) | (refine zS ?_; intro _ _) | (apply Ws <;> intro hg))
      rw [show ((worTo f s k : Nat) : Int) + ((f.getD k 0 : Nat) : Int) = ((worTo f s (k + 1) : Nat) : Int) by omega, show (k : Int) + 1 = ((k + 1 : Nat) : Int) by omega]
      exact Ends.loop (k + 1) (by omega) (by repeat' (first | exact .nil | refine .cons rfl ?_)) rfl ⟨rfl, hk'⟩
    | false =>
      rw [h1, if_neg (by decide)] at he
      replace he : worTo f s (k + 1) = worTo f s k := he
      repeat' (first | refine zP ?_ | refine zA ?_ | (refine zM ?_; intro _ _) | refine zX ?_ | (refine zC ?_; intro _ _ _ _) | (refine zS ?_; intro _ _) | (apply Ws <;> intro hg))
      rw [← he, show (k : Int) + 1 = ((k + 1 : Nat) : Int) by omega]
      exact Ends.loop (k + 1) (by omega) (by repeat' (first | exact .nil | refine .cons rfl ?_)) rfl ⟨rfl, hk'⟩
  · have hkl : k = f.length := by omega
    subst hkl
    repeat' (first | refine zP ?_ | refine zA ?_ | (refine zM ?_; intro _ _) | refine zX ?_ | (refine zC ?_; intro _ _ _ _) | (refine zS ?_; intro _ _) | (apply Ws <;> intro hg))
    exact Ends.ret1 rfl ⟨rfl, rfl⟩

/-- A question about shares: whether the own share is worth less. -/
theorem envies_fs (hH : hasH M n0 H) {f : List Nat} (hS : Sl M 1 v (nodes f)) (hl : f.length ≤ 6) (hb : ∀ x ∈ f, x ≤ 20) {s : Nat} (hs : s < 2 ^ 62) :
    FS C 77 [v, .int .u64 (s : Int)] H (fun e H' => e = .func (.func 108) [].toArray [.pointer (some ⟨n0, 0, some 0⟩), .pointer (some ⟨n0 + 1, 0, some 0⟩)].toArray ∧ hasH ((n0 + 1, .row 3 0 0 [.int .i64 (wor f s : Nat)]) :: (n0, .row 83 0 0 [v]) :: M) (n0 + 2) H') := by
  have h1 := hS.one_
  refine FS.intro (pf := pf77) rfl rfl rfl ?_
  repeat' (first | refine zP ?_ | refine zA ?_ | (refine zM ?_; intro _ _) | refine zX ?_ | (refine zC ?_; intro _ _ _ _) | (refine zS ?_; intro _ _) | (apply Ws <;> intro hg))
  refine WR.box1 (by first | exact gN | exact gS rfl) rfl hH rfl h1 fun H1 hH1 => ?_
  repeat' (first | refine zP ?_ | refine zA ?_ | (refine zM ?_; intro _ _) | refine zX ?_ | (refine zC ?_; intro _ _ _ _) | (refine zS ?_; intro _ _) | (apply Ws <;> intro hg))
  refine WR.call (by first | exact gN | exact gS rfl) rfl rfl (worth_fs hH1 hS.cons hl hb hs) ?_
  rintro _ _ ⟨rfl, rfl⟩
  repeat' (first | refine zP ?_ | refine zA ?_ | (refine zM ?_; intro _ _) | refine zX ?_ | (refine zC ?_; intro _ _ _ _) | (refine zS ?_; intro _ _) | (apply Ws <;> intro hg))
  rename_i H2 hH2 H3 hH3
  exact Ends.ret1 rfl ⟨rfl, hH3⟩
theorem envies1_fs {n1 n2 : Nat} (hH : hasH M n0 H) {f : List Nat} (hS : Sl M 1 v (nodes f)) (hl : f.length ≤ 6) (hb : ∀ x ∈ f, x ≤ 20) {own s : Nat} (hs : s < 2 ^ 62)
    (h1 : (n1, Ch.row 83 0 0 [v]) ∈ M) (h2 : (n2, Ch.row 3 0 0 [.int .i64 (wor f own : Nat)]) ∈ M) :
    FS C 108 [.int .u64 (s : Int), .pointer (some ⟨n1, 0, some 0⟩), .pointer (some ⟨n2, 0, some 0⟩)] H (fun e H' => e = .bool (envB f own s) ∧ H' = H) := by
  have hv := hS.same
  refine FS.intro (pf := pf108) rfl rfl rfl ?_
  repeat' (first | refine zP ?_ | refine zA ?_ | (refine zM ?_; intro _ _) | refine zX ?_ | (refine zC ?_; intro _ _ _ _) | (refine zS ?_; intro _ _) | (apply Ws <;> intro hg))
  refine WC.regionD ?_
  repeat' (first | refine zD ?_ | (refine zE ?_; intro _ _ _ _))
  refine WD.call (by first | exact gN | exact gS rfl) rfl rfl (worth_fs hH hS hl hb hs) ?_
  rintro _ _ ⟨rfl, rfl⟩
  refine ⟨zSt, ?_⟩
  repeat' (first | refine zD ?_ | (refine zE ?_; intro _ _ _ _))
  refine WD.nil ?_
  repeat' (first | refine zP ?_ | refine zA ?_ | (refine zM ?_; intro _ _) | refine zX ?_ | (refine zC ?_; intro _ _ _ _) | (refine zS ?_; intro _ _) | (apply Ws <;> intro hg))
  refine Ends.ret1 rfl ⟨?_, rfl⟩
  congr 1
  unfold envB
  rw [decide_eq_decide]; omega
end
end Go.Proofs.Ytaipmdhnhffckaa.Sh

namespace Go.Proofs.Ytaipmdhnhffckaa.Sh
open Go Go.Abs Go.Mth
set_option linter.unusedVariables false
set_option linter.unusedSimpArgs false
/-- A function that answers a question about each share. -/
def AskQ (M : HL) (g : FuncId) (va vb : List Value) (V : Nat → Value) (S : Nat → Prop) : Prop :=
  ∀ {X : HL} {n : Nat} {H : Heap} {s : Nat}, (∀ q ∈ M, q ∈ X) → hasH X n H → S s → FS C g (va ++ [.int .u64 (s : Int)] ++ vb) H (fun e H' => e = V s ∧ ∃ n', n ≤ n' ∧ hasH X n' H')
structure KB where
  k : Nat
  l : List Bool
  n : Nat
structure KI where
  k : Nat
  l : List Int
  n : Nat
structure KV where
  k : Nat
  v : Value
  Mx : HL
  n : Nat
theorem rep_bools (n : Nat) : (List.replicate n [Value.bool false]).flatten = bools (List.replicate n false) := by
  induction n with
  | zero => rfl
  | succ n ih => simp [List.replicate_succ, ih]
theorem rep_ints (n : Nat) : (List.replicate n [Value.int .i64 0]).flatten = ints (List.replicate n 0) := by
  induction n with
  | zero => rfl
  | succ n ih => simp [List.replicate_succ, ih]
theorem rep_u64s (n : Nat) : (List.replicate n [Value.int .u64 0]).flatten = u64s (List.replicate n 0) := by
  induction n with
  | zero => rfl
  | succ n ih => simp [List.replicate_succ, ih]
theorem map_done {α β : Type} {l : List β} {ss : List α} {p : α → β} {a : α} {b : β} (hl : l.length = ss.length) (h : ∀ i, i < ss.length → l.getD i b = p (ss.getD i a)) : l = ss.map p := by
  refine ext_getD (a := b) (by rw [hl, List.length_map]) fun i hi => ?_
  rw [h i (by omega), map_getD (a := a) (by omega)]
theorem Sl.mkd {M : HL} {n e k : Nat} {cs : List Value} (h : cs.length = k) : Sl ((n, .row e 0 0 cs) :: M) 1 (.slice (some ⟨n, 0, some 0⟩) k (2 * k + 1)) cs := by
  subst h
  exact .row (lo := 0) (.head _) (.row _ _ _ _) (Nat.le_refl _) (by omega) (by rw [Nat.sub_self, List.drop_zero, List.take_length]) (by simp) (.inr ⟨_, rfl, Nat.le_refl _⟩)
attribute [local irreducible] gOK WS WC WR WD Ends FS YS OpV seqK blockK loopK midK retK rdK asgK rangeEnd sat Cell

section
variable {M : HL} {n0 : Nat} {H : Heap} {v w : Value}
theorem askB_fs (hH : hasH M n0 H) {ss : List Nat} (hS : Sl M 1 v (u64s ss)) (hl : ss.length ≤ 6) {g : FuncId} {va vb : List Value} {p : Nat → Bool} (hq : AskQ M g va vb (fun s => .bool (p s)) (· ∈ ss)) :
    FS C 107 [.func (.func g) va.toArray vb.toArray, v] H (fun e H' => e = .slice (some ⟨n0, 0, some 0⟩) ss.length (2 * ss.length + 1) ∧ ∃ n', n0 < n' ∧ hasH ((n0, .row 4 0 0 (bools (ss.map p))) :: M) n' H') := by
  refine FS.intro (pf := pf107) rfl rfl rfl ?_
  repeat' (first | refine zP ?_ | refine zA ?_ | (refine zM ?_; intro _ _) | refine zX ?_ | (refine zC ?_; intro _ _ _ _) | (refine zS ?_; intro _ _) | (apply Ws <;> intro hg))
  refine WR.mkSL (by first | exact gN | exact gS rfl) rfl hH rfl rfl (by omega) rfl fun H1 hH1 => ?_
  rw [rep_bools] at hH1
  repeat' (first | refine zP ?_ | refine zA ?_ | (refine zM ?_; intro _ _) | refine zX ?_ | (refine zC ?_; intro _ _ _ _) | (refine zS ?_; intro _ _) | (apply Ws <;> intro hg))
  refine WC.loopX [(0, _), (1, _), (5, _), (11, _), (12, _)] (fun s : KB => [(13, .int .i64 (s.k : Int))]) []
    (fun s H' => s.k ≤ ss.length ∧ s.l.length = ss.length ∧ (∀ i, i < s.k → s.l.getD i false = p (ss.getD i 0)) ∧ n0 < s.n ∧ hasH ((n0, .row 4 0 0 (bools s.l)) :: M) s.n H') (fun s => ss.length - s.k) ⟨0, List.replicate ss.length false, n0 + 1⟩ (by repeat' (first | exact .nil | refine .cons rfl ?_)) rfl
    ⟨Nat.zero_le _, by simp, fun i h => absurd h (Nat.not_lt_zero _), by simp only; omega, hH1⟩ ?_
  clear hH1
  rintro ⟨k, l, n1⟩ H2 ⟨hk, hll, hd, hn1, hH2⟩
  simp only at hk hll hd hn1 hH2
  dsimp only [List.cons_append, List.nil_append]
  repeat' (first | refine zP ?_ | refine zA ?_ | (refine zM ?_; intro _ _) | refine zX ?_ | (refine zC ?_; intro _ _ _ _) | (refine zS ?_; intro _ _) | (apply Ws <;> intro hg))
  refine WC.condP rfl (fun hlt => ?_) (fun hlt => ?_)
  · have hk' : k < ss.length := by omega
    have hSc : Sl ((n0, .row 4 0 0 (bools l)) :: M) 1 v (u64s ss) := hS.cons
    repeat' (first | refine zP ?_ | refine zA ?_ | (refine zM ?_; intro _ _) | refine zX ?_ | (refine zC ?_; intro _ _ _ _) | (refine zS ?_; intro _ _) | (apply Ws <;> intro hg))
    refine WR.callV (by first | exact gN | exact gS rfl) rfl rfl rfl (hq (fun q h => List.mem_cons_of_mem _ h) hH2 (getD_mem (a := 0) hk')) ?_
    rintro _ H3 ⟨rfl, n3, hn3, hH3⟩
    clear hH2
    repeat' (first | refine zP ?_ | refine zA ?_ | (refine zM ?_; intro _ _) | refine zX ?_ | (refine zC ?_; intro _ _ _ _) | (refine zS ?_; intro _ _) | (apply Ws <;> intro hg))
    rename_i H4 hH4
    rw [show (k : Int) + 1 = ((k + 1 : Nat) : Int) by omega]
    refine Ends.loop ⟨k + 1, l.set k (p (ss.getD k 0)), n3⟩ (by simp only; omega) (by repeat' (first | exact .nil | refine .cons rfl ?_)) rfl ⟨hk', by simpa using hll, fun i hi => ?_, by simp only; omega, hH4⟩
    simp only at hi ⊢
    rw [getD_set' (by omega)]
    split
    · rename_i h; rw [h]
    · exact hd i (by omega)
  · have hkl : k = ss.length := by omega
    subst hkl
    have := map_done (a := 0) (b := false) (p := p) hll hd
    subst this
    repeat' (first | refine zP ?_ | refine zA ?_ | (refine zM ?_; intro _ _) | refine zX ?_ | (refine zC ?_; intro _ _ _ _) | (refine zS ?_; intro _ _) | (apply Ws <;> intro hg))
    exact Ends.ret1 rfl ⟨rfl, n1, hn1, hH2⟩
theorem askI_fs (hH : hasH M n0 H) {ss : List Nat} (hS : Sl M 1 v (u64s ss)) (hl : ss.length ≤ 6) {g : FuncId} {va vb : List Value} {p : Nat → Int} (hq : AskQ M g va vb (fun s => .int .i64 (p s)) (· ∈ ss)) :
    FS C 71 [.func (.func g) va.toArray vb.toArray, v] H (fun e H' => e = .slice (some ⟨n0, 0, some 0⟩) ss.length (2 * ss.length + 1) ∧ ∃ n', n0 < n' ∧ hasH ((n0, .row 3 0 0 (ints (ss.map p))) :: M) n' H') := by
  refine FS.intro (pf := pf71) rfl rfl rfl ?_
  repeat' (first | refine zP ?_ | refine zA ?_ | (refine zM ?_; intro _ _) | refine zX ?_ | (refine zC ?_; intro _ _ _ _) | (refine zS ?_; intro _ _) | (apply Ws <;> intro hg))
  refine WR.mkSL (by first | exact gN | exact gS rfl) rfl hH rfl rfl (by omega) rfl fun H1 hH1 => ?_
  rw [rep_ints] at hH1
  repeat' (first | refine zP ?_ | refine zA ?_ | (refine zM ?_; intro _ _) | refine zX ?_ | (refine zC ?_; intro _ _ _ _) | (refine zS ?_; intro _ _) | (apply Ws <;> intro hg))
  refine WC.loopX [(0, _), (1, _), (5, _), (11, _), (12, _)] (fun s : KI => [(13, .int .i64 (s.k : Int))]) []
    (fun s H' => s.k ≤ ss.length ∧ s.l.length = ss.length ∧ (∀ i, i < s.k → s.l.getD i 0 = p (ss.getD i 0)) ∧ n0 < s.n ∧ hasH ((n0, .row 3 0 0 (ints s.l)) :: M) s.n H') (fun s => ss.length - s.k) ⟨0, List.replicate ss.length 0, n0 + 1⟩ (by repeat' (first | exact .nil | refine .cons rfl ?_)) rfl
    ⟨Nat.zero_le _, by simp, fun i h => absurd h (Nat.not_lt_zero _), by simp only; omega, hH1⟩ ?_
  clear hH1
  rintro ⟨k, l, n1⟩ H2 ⟨hk, hll, hd, hn1, hH2⟩
  simp only at hk hll hd hn1 hH2
  dsimp only [List.cons_append, List.nil_append]
  repeat' (first | refine zP ?_ | refine zA ?_ | (refine zM ?_; intro _ _) | refine zX ?_ | (refine zC ?_; intro _ _ _ _) | (refine zS ?_; intro _ _) | (apply Ws <;> intro hg))
  refine WC.condP rfl (fun hlt => ?_) (fun hlt => ?_)
  · have hk' : k < ss.length := by omega
    have hSc : Sl ((n0, .row 3 0 0 (ints l)) :: M) 1 v (u64s ss) := hS.cons
    repeat' (first | refine zP ?_ | refine zA ?_ | (refine zM ?_; intro _ _) | refine zX ?_ | (refine zC ?_; intro _ _ _ _) | (refine zS ?_; intro _ _) | (apply Ws <;> intro hg))
    refine WR.callV (by first | exact gN | exact gS rfl) rfl rfl rfl (hq (fun q h => List.mem_cons_of_mem _ h) hH2 (getD_mem (a := 0) hk')) ?_
    rintro _ H3 ⟨rfl, n3, hn3, hH3⟩
    clear hH2
    repeat' (first | refine zP ?_ | refine zA ?_ | (refine zM ?_; intro _ _) | refine zX ?_ | (refine zC ?_; intro _ _ _ _) | (refine zS ?_; intro _ _) | (apply Ws <;> intro hg))
    rename_i H4 hH4
    rw [show (k : Int) + 1 = ((k + 1 : Nat) : Int) by omega]
    refine Ends.loop ⟨k + 1, l.set k (p (ss.getD k 0)), n3⟩ (by simp only; omega) (by repeat' (first | exact .nil | refine .cons rfl ?_)) rfl ⟨hk', by simpa using hll, fun i hi => ?_, by simp only; omega, hH4⟩
    simp only at hi ⊢
    rw [getD_set' (by omega)]
    split
    · rename_i h; rw [h]
    · exact hd i (by omega)
  · have hkl : k = ss.length := by omega
    subst hkl
    have := map_done (a := 0) (b := 0) (p := p) hll hd
    subst this
    repeat' (first | refine zP ?_ | refine zA ?_ | (refine zM ?_; intro _ _) | refine zX ?_ | (refine zC ?_; intro _ _ _ _) | (refine zS ?_; intro _ _) | (apply Ws <;> intro hg))
    exact Ends.ret1 rfl ⟨rfl, n1, hn1, hH2⟩

theorem lessOne_fs (hH : hasH M n0 H) {s : Nat} (hs : s < 2 ^ 62) :
    FS C 110 [.int .u64 (s : Int)] H (fun e H' => ∃ Mx n', Own 116 1 e (u64s (restsTo s 6)) Mx ∧ n0 ≤ n' ∧ hasH (Mx ++ M) n' H') := by
  refine FS.intro (pf := pf110) rfl rfl rfl ?_
  repeat' (first | refine zP ?_ | refine zA ?_ | (refine zM ?_; intro _ _) | refine zX ?_ | (refine zC ?_; intro _ _ _ _) | (refine zS ?_; intro _ _) | (apply Ws <;> intro hg))
  refine WC.loopX [(0, _)] (fun s' : KV => [(3, s'.v), (5, .int .i64 (s'.k : Int))]) []
    (fun s' H' => s'.k ≤ 6 ∧ n0 ≤ s'.n ∧ Own 116 1 s'.v (u64s (restsTo s s'.k)) s'.Mx ∧ hasH (s'.Mx ++ M) s'.n H') (fun s' => 6 - s'.k) ⟨0, .slice none 0 0, [], n0⟩ (by repeat' (first | exact .nil | refine .cons rfl ?_)) rfl
    ⟨Nat.zero_le _, Nat.le_refl _, .nil, hH⟩ ?_
  clear hH
  rintro ⟨k, v, Mx, n1⟩ H2 ⟨hk, hn1, hO, hH2⟩
  simp only at hk hn1 hO hH2
  dsimp only [List.cons_append, List.nil_append]
  repeat' (first | refine zP ?_ | refine zA ?_ | (refine zM ?_; intro _ _) | refine zX ?_ | (refine zC ?_; intro _ _ _ _) | (refine zS ?_; intro _ _) | (apply Ws <;> intro hg))
  refine WC.condP rfl (fun hlt => ?_) (fun hlt => ?_)
  · have hk' : k < 6 := by omega
    repeat' (first | refine zP ?_ | refine zA ?_ | (refine zM ?_; intro _ _) | refine zX ?_ | (refine zC ?_; intro _ _ _ _) | (refine zS ?_; intro _ _) | (apply Ws <;> intro hg))
    refine WR.call (by first | exact gN | exact gS rfl) rfl rfl (has_fs hs (by omega) _) ?_
    rintro _ _ ⟨rfl, rfl⟩
    cases hb : s.testBit k with
    | true =>
      repeat' (first | refine zP ?_ | refine zA ?_ | (refine zM ?_; intro _ _) | refine zX ?_ | (refine zC ?_; intro _ _ _ _) | (refine zS ?_; intro _ _) | (apply Ws <;> intro hg))
      refine WR.call (by first | exact gN | exact gS rfl) rfl rfl (only_fs (by omega) _) ?_
      rintro _ _ ⟨rfl, rfl⟩
      repeat' (first | refine zP ?_ | refine zA ?_ | (refine zM ?_; intro _ _) | refine zX ?_ | (refine zC ?_; intro _ _ _ _) | (refine zS ?_; intro _ _) | (apply Ws <;> intro hg))
      refine WR.op (by first | exact gN | exact gS rfl) rfl (OpV.andNotN rfl rfl (by show s < 2 ^ 64; omega) (by show 2 ^ k < 2 ^ 64; exact Nat.pow_lt_pow_right (by omega) (by omega))) ?_
      have hle := rests_len s k
      refine WR.append1F [] Mx M rfl rfl rfl rfl hO hH2 (new := [.int .u64 (lessN s k : Nat)]) (by rfl) rfl rfl (Nat.le_refl _) (by omega) (by simp; omega) fun v3 M3 n3 H6 hO3 hH6 hn3 => ?_
      repeat' (first | refine zP ?_ | refine zA ?_ | (refine zM ?_; intro _ _) | refine zX ?_ | (refine zC ?_; intro _ _ _ _) | (refine zS ?_; intro _ _) | (apply Ws <;> intro hg))
      rw [show (k : Int) + 1 = ((k + 1 : Nat) : Int) by omega]
      refine Ends.loop ⟨k + 1, v3, M3, n3⟩ (by simp only; omega) (by repeat' (first | exact .nil | refine .cons rfl ?_)) rfl ⟨hk', by simp only; omega, ?_, hH6⟩
      simp only
      rw [rests_yes hb]
      simpa using hO3
    | false =>
      repeat' (first | refine zP ?_ | refine zA ?_ | (refine zM ?_; intro _ _) | refine zX ?_ | (refine zC ?_; intro _ _ _ _) | (refine zS ?_; intro _ _) | (apply Ws <;> intro hg))
      rw [show (k : Int) + 1 = ((k + 1 : Nat) : Int) by omega]
      exact Ends.loop ⟨k + 1, v, Mx, n1⟩ (by simp only; omega) (by repeat' (first | exact .nil | refine .cons rfl ?_)) rfl ⟨hk', hn1, by simp only; rw [rests_no hb]; exact hO, hH2⟩
  · have hk6 : k = 6 := by omega
    subst hk6
    repeat' (first | refine zP ?_ | refine zA ?_ | (refine zM ?_; intro _ _) | refine zX ?_ | (refine zC ?_; intro _ _ _ _) | (refine zS ?_; intro _ _) | (apply Ws <;> intro hg))
    exact Ends.ret1 rfl ⟨Mx, n1, hO, hn1, hH2⟩

theorem indexB_fs (hH : hasH M n0 H) {bs : List Bool} (hS : Sl M 1 v (bools bs)) (hl : bs.length ≤ 6) (b : Bool) :
    FS C 128 [v, .bool b] H (fun e H' => (∃ i : Int, e = .int .i64 i ∧ (0 ≤ i ↔ bs.any (· == b) = true)) ∧ H' = H) := by
  refine FS.intro (pf := pf128) rfl rfl rfl ?_
  repeat' (first | refine zP ?_ | refine zA ?_ | (refine zM ?_; intro _ _) | refine zX ?_ | (refine zC ?_; intro _ _ _ _) | (refine zS ?_; intro _ _) | (apply Ws <;> intro hg))
  refine WC.loopX [(0, _), (1, _), (7, _)] (fun k : Nat => [(8, .int .i64 (k : Int))]) [] (fun k H' => H' = H ∧ k ≤ bs.length ∧ ∀ j, j < k → (bs.getD j false == b) = false) (fun k => bs.length - k) 0 (by repeat' (first | exact .nil | refine .cons rfl ?_)) rfl ⟨rfl, Nat.zero_le _, fun j h => absurd h (Nat.not_lt_zero _)⟩ ?_
  rintro k H' ⟨rfl, hk, hno⟩
  dsimp only [List.cons_append, List.nil_append]
  repeat' (first | refine zP ?_ | refine zA ?_ | (refine zM ?_; intro _ _) | refine zX ?_ | (refine zC ?_; intro _ _ _ _) | (refine zS ?_; intro _ _) | (apply Ws <;> intro hg))
  refine WC.condP rfl (fun hlt => ?_) (fun hlt => ?_)
  · have hk' : k < bs.length := by omega
    repeat' (first | refine zP ?_ | refine zA ?_ | (refine zM ?_; intro _ _) | refine zX ?_ | (refine zC ?_; intro _ _ _ _) | (refine zS ?_; intro _ _) | (apply Ws <;> intro hg))
    refine WR.op (by first | exact gN | exact gS rfl) rfl (OpV.eqB (eqlB _ _) rfl rfl) ?_
    cases h1 : (b == bs.getD k false) with
    | true =>
      repeat' (first | refine zP ?_ | refine zA ?_ | (refine zM ?_; intro _ _) | refine zX ?_ | (refine zC ?_; intro _ _ _ _) | (refine zS ?_; intro _ _) | (apply Ws <;> intro hg))
      refine Ends.ret1 rfl ⟨⟨(k : Int), rfl, ?_⟩, rfl⟩
      have : bs.any (· == b) = true := List.any_eq_true.2 ⟨bs.getD k false, getD_mem hk', by rw [beq_iff_eq] at h1 ⊢; exact h1.symm⟩
      rw [this]; simp
    | false =>
      repeat' (first | refine zP ?_ | refine zA ?_ | (refine zM ?_; intro _ _) | refine zX ?_ | (refine zC ?_; intro _ _ _ _) | (refine zS ?_; intro _ _) | (apply Ws <;> intro hg))
      rw [show (k : Int) + 1 = ((k + 1 : Nat) : Int) by omega]
      refine Ends.loop (k + 1) (by omega) (by repeat' (first | exact .nil | refine .cons rfl ?_)) rfl ⟨rfl, hk', fun j hj => ?_⟩
      by_cases h2 : j = k
      · subst h2
        cases b <;> cases h3 : bs.getD j false <;> rw [h3] at h1 <;> simp_all
      · exact hno j (by omega)
  · have hkl : k = bs.length := by omega
    subst hkl
    repeat' (first | refine zP ?_ | refine zA ?_ | (refine zM ?_; intro _ _) | refine zX ?_ | (refine zC ?_; intro _ _ _ _) | (refine zS ?_; intro _ _) | (apply Ws <;> intro hg))
    refine Ends.ret1 rfl ⟨⟨-1, rfl, ?_⟩, rfl⟩
    have : bs.any (· == b) = false := List.any_eq_false.2 fun x hx => by
      obtain ⟨i, hi, rfl⟩ := List.mem_iff_getElem.1 hx
      have := hno i hi
      rw [getD_eq hi] at this
      rw [this]; simp
    rw [this]; simp
theorem containsB_fs (hH : hasH M n0 H) {bs : List Bool} (hS : Sl M 1 v (bools bs)) (hl : bs.length ≤ 6) (b : Bool) :
    FS C 111 [v, .bool b] H (fun e H' => e = .bool (bs.any (· == b)) ∧ H' = H) := by
  refine FS.intro (pf := pf111) rfl rfl rfl ?_
  repeat' (first | refine zP ?_ | refine zA ?_ | (refine zM ?_; intro _ _) | refine zX ?_ | (refine zC ?_; intro _ _ _ _) | (refine zS ?_; intro _ _) | (apply Ws <;> intro hg))
  refine WR.call (by first | exact gN | exact gS rfl) rfl rfl (indexB_fs hH hS hl b) ?_
  rintro _ _ ⟨⟨i, rfl, hi⟩, rfl⟩
  repeat' (first | refine zP ?_ | refine zA ?_ | (refine zM ?_; intro _ _) | refine zX ?_ | (refine zC ?_; intro _ _ _ _) | (refine zS ?_; intro _ _) | (apply Ws <;> intro hg))
  refine Ends.ret1 rfl ⟨?_, rfl⟩
  congr 1
  rw [Bool.eq_iff_iff, decide_eq_true_eq, hi]

/-- A question about shares: whether it is so whatever one thing is taken out. -/
theorem more_fs (hH : hasH M n0 H) {f : List Nat} (hS : Sl M 1 v (nodes f)) (hl : f.length ≤ 6) (hb : ∀ x ∈ f, x ≤ 20) {s : Nat} (hs : s < 2 ^ 62) :
    FS C 81 [v, .int .u64 (s : Int)] H (fun e H' => e = .func (.func 109) [].toArray [.pointer (some ⟨n0 + 2, 0, some 0⟩)].toArray ∧
      hasH ((n0 + 2, .row 121 0 0 [.func (.func 108) [].toArray [.pointer (some ⟨n0, 0, some 0⟩), .pointer (some ⟨n0 + 1, 0, some 0⟩)].toArray]) :: (n0 + 1, .row 3 0 0 [.int .i64 (wor f s : Nat)]) :: (n0, .row 83 0 0 [v]) :: M) (n0 + 3) H') := by
  refine FS.intro (pf := pf81) rfl rfl rfl ?_
  repeat' (first | refine zP ?_ | refine zA ?_ | (refine zM ?_; intro _ _) | refine zX ?_ | (refine zC ?_; intro _ _ _ _) | (refine zS ?_; intro _ _) | (apply Ws <;> intro hg))
  refine WR.call (by first | exact gN | exact gS rfl) rfl rfl (envies_fs hH hS hl hb hs) ?_
  rintro _ H1 ⟨rfl, hH1⟩
  repeat' (first | refine zP ?_ | refine zA ?_ | (refine zM ?_; intro _ _) | refine zX ?_ | (refine zC ?_; intro _ _ _ _) | (refine zS ?_; intro _ _) | (apply Ws <;> intro hg))
  rename_i H2 hH2 H3 hH3
  exact Ends.ret1 rfl ⟨rfl, hH3⟩
theorem more1_fs {n1 n2 n3 : Nat} (hH : hasH M n0 H) {f : List Nat} (hS : Sl M 1 v (nodes f)) {m : Nat} (hl : f.length = m) (hm : m ≤ 6) (hb : ∀ x ∈ f, x ≤ 20) {own s : Nat} (hs : s < 2 ^ m)
    (h1 : (n1, Ch.row 83 0 0 [v]) ∈ M) (h2 : (n2, Ch.row 3 0 0 [.int .i64 (wor f own : Nat)]) ∈ M) (h3 : (n3, Ch.row 121 0 0 [.func (.func 108) [].toArray [.pointer (some ⟨n1, 0, some 0⟩), .pointer (some ⟨n2, 0, some 0⟩)].toArray]) ∈ M) :
    FS C 109 [.int .u64 (s : Int), .pointer (some ⟨n3, 0, some 0⟩)] H (fun e H' => e = .bool (muchB f own s) ∧ ∃ n', n0 ≤ n' ∧ hasH M n' H') := by
  have hs62 := lt_pow hs (by omega)
  refine FS.intro (pf := pf109) rfl rfl rfl ?_
  rw [much_rests hl hm hs]
  repeat' (first | refine zP ?_ | refine zA ?_ | (refine zM ?_; intro _ _) | refine zX ?_ | (refine zC ?_; intro _ _ _ _) | (refine zS ?_; intro _ _) | (apply Ws <;> intro hg))
  refine WR.call (by first | exact gN | exact gS rfl) rfl rfl (lessOne_fs hH hs62) ?_
  rintro e H1 ⟨Mx, n4, hO, hn4, hH1⟩
  have hSe := hO.sl M
  have hle := rests_len s 6
  have hlt : ∀ x ∈ restsTo s 6, x < 2 ^ 62 := fun x hx => by
    obtain ⟨j, _, rfl⟩ := List.mem_map.1 hx
    exact less_lt hs62
  generalize hrs : restsTo s 6 = rs at hO hSe hle hlt ⊢
  replace hS := hS.mono (M' := Mx ++ M) fun q hq => List.mem_append_right _ hq
  replace h1 := List.mem_append_right Mx h1
  replace h2 := List.mem_append_right Mx h2
  replace h3 := List.mem_append_right Mx h3
  have hback : ∀ {p : Nat × Ch} {n' : Nat} {H' : Heap}, hasH (p :: (Mx ++ M)) n' H' → hasH M n' H' := fun h => h.sub ((List.sublist_append_right _ _).trans (List.sublist_cons_self _ _))
  have hback0 : ∀ {n' : Nat} {H' : Heap}, hasH (Mx ++ M) n' H' → hasH M n' H' := fun h => h.sub (List.sublist_append_right _ _)
  generalize Mx ++ M = T at hH1 hSe hS h1 h2 h3 hback hback0
  by_cases h0 : 0 < rs.length
  · rw [decide_eq_true h0, Bool.true_and]
    repeat' (first | refine zP ?_ | refine zA ?_ | (refine zM ?_; intro _ _) | refine zX ?_ | (refine zC ?_; intro _ _ _ _) | (refine zS ?_; intro _ _) | refine zO ?_ | (apply Ws <;> intro hg))
    refine WR.call (by first | exact gN | exact gS rfl) rfl rfl (askB_fs (p := envB f own) hH1 hSe hle (g := 108) (va := []) (vb := [.pointer (some ⟨n1, 0, some 0⟩), .pointer (some ⟨n2, 0, some 0⟩)]) fun {X n' H' x} hX hH' hx => (envies1_fs hH' (hS.mono hX) (by omega) hb (hlt x hx) (hX _ h1) (hX _ h2)).mono fun e H2 ⟨g1, g2⟩ => ⟨g1, n', Nat.le_refl _, by rw [g2]; exact hH'⟩) ?_
    rintro _ H2 ⟨rfl, n5, hn5, hH2⟩
    repeat' (first | refine zP ?_ | refine zA ?_ | (refine zM ?_; intro _ _) | refine zX ?_ | (refine zC ?_; intro _ _ _ _) | (refine zS ?_; intro _ _) | (apply Ws <;> intro hg))
    have hSb : Sl ((n4, Ch.row 4 0 0 (bools (rs.map (envB f own)))) :: T) 1 (.slice (some ⟨n4, 0, some 0⟩) rs.length (2 * rs.length + 1)) (bools (rs.map (envB f own))) := Sl.mkd (by simp)
    refine WR.call (by first | exact gN | exact gS rfl) rfl rfl (containsB_fs hH2 hSb (by simpa using hle) false) ?_
    rintro _ _ ⟨rfl, rfl⟩
    repeat' (first | refine zP ?_ | refine zA ?_ | (refine zM ?_; intro _ _) | refine zX ?_ | (refine zC ?_; intro _ _ _ _) | (refine zS ?_; intro _ _) | (apply Ws <;> intro hg))
    exact Ends.ret1 rfl ⟨rfl, n5, by omega, hback hH2⟩
  · rw [decide_eq_false h0, Bool.false_and]
    repeat' (first | refine zP ?_ | refine zA ?_ | (refine zM ?_; intro _ _) | refine zX ?_ | (refine zC ?_; intro _ _ _ _) | (refine zS ?_; intro _ _) | refine zO ?_ | (apply Ws <;> intro hg))
    exact Ends.ret1 rfl ⟨rfl, n4, hn4, hback0 hH1⟩
end
end Go.Proofs.Ytaipmdhnhffckaa.Sh

namespace Go.Proofs.Ytaipmdhnhffckaa.Sh
open Go Go.Abs Go.Mth
set_option linter.unusedVariables false
set_option linter.unusedSimpArgs false
abbrev IL (l : List Nat) : List Int := l.map fun (x : Nat) => (x : Int)
abbrev ILL (vs : List (List Nat)) : List (List Int) := vs.map fun l => l.map fun (x : Nat) => (x : Int)
def belowB (n : Int) (xs : List Int) : Bool := xs.all fun x => decide (0 ≤ x) && decide (x < n)
/-- The error of values. -/
def rowE (m : Nat) (l : List Int) : Int := if l.length = m then (if belowB 21 l = true then 0 else 1) else 5
def valsE (fs : List (List Int)) : Int := if fs.length = 0 then 4 else if 4 < fs.length ∨ 6 < (fs.getD 0 []).length then 3 else firstE (fun i => rowE (fs.getD 0 []).length (fs.getD i [])) fs.length
/-- The error of values and a division. -/
def divE (fs : List (List Int)) (o : List Int) : Int := if valsE fs ≠ 0 then valsE fs else if o.length ≠ (fs.getD 0 []).length then 5 else if belowB (fs.length : Int) o = true then 0 else 2
theorem belowB_iff {n : Int} {xs : List Int} : belowB n xs = true ↔ ∀ x ∈ xs, 0 ≤ x ∧ x < n := by simp [belowB]
theorem vals_ok {fs : List (List Int)} (h : valsE fs = 0) : ∃ vs n m, fs = ILL vs ∧ OKV vs n m := by
  unfold valsE at h
  split at h
  · cases h
  · rename_i h0
    split at h
    · cases h
    · rename_i h1
      have h2 : ∀ i, i < fs.length → (fs.getD i []).length = (fs.getD 0 []).length ∧ ∀ x ∈ fs.getD i [], 0 ≤ x ∧ x < 21 := fun i hi => by
        have := firstE_zero.1 h i hi
        unfold rowE at this
        split at this
        · rename_i h3
          split at this
          · rename_i h4; exact ⟨h3, belowB_iff.1 h4⟩
          · cases this
        · cases this
      have h5 : ∀ l ∈ fs, l.length = (fs.getD 0 []).length ∧ ∀ x ∈ l, 0 ≤ x ∧ x < 21 := fun l hl => by
        obtain ⟨i, hi, rfl⟩ := List.mem_iff_getElem.1 hl
        have := h2 i hi
        rwa [getD_eq (l := fs) (k := i) hi] at this
      refine ⟨fs.map fun l => l.map Int.toNat, fs.length, (fs.getD 0 []).length, ?_, ⟨by simp, by omega, by omega, by omega, fun l hl => ?_, fun l hl x hx => ?_⟩⟩
      · rw [ILL, List.map_map]
        have : fs.map ((fun l : List Nat => l.map fun (x : Nat) => (x : Int)) ∘ fun l : List Int => l.map Int.toNat) = fs.map id := List.map_congr_left fun l hl => by
          show (l.map Int.toNat).map _ = l
          rw [List.map_map]
          have : l.map ((fun (x : Nat) => (x : Int)) ∘ Int.toNat) = l.map id := List.map_congr_left fun x hx => by have := ((h5 l hl).2 x hx).1; simp; omega
          rw [this, List.map_id]
        rw [this, List.map_id]
      · obtain ⟨k, hk, rfl⟩ := List.mem_map.1 hl
        rw [List.length_map]; exact (h5 k hk).1
      · obtain ⟨k, hk, rfl⟩ := List.mem_map.1 hl
        obtain ⟨y, hy, rfl⟩ := List.mem_map.1 hx
        have := (h5 k hk).2 y hy
        omega
theorem vals_intro {vs : List (List Nat)} {n m : Nat} (h : OKV vs n m) : valsE (ILL vs) = 0 := by
  have hl : (ILL vs).length = n := by simp [h.len]
  have hg : ∀ i, i < n → (ILL vs).getD i [] = IL (vs.getD i []) := fun i hi => map_getD (by rw [h.len]; exact hi)
  have h0 := h.pos
  have h4 := h.n4
  have h6 := h.m6
  have hr : ∀ i, i < n → ((ILL vs).getD i []).length = m := fun i hi => by rw [hg i hi, List.length_map, h.rowLen hi]
  unfold valsE
  rw [if_neg (by omega), if_neg (by have := hr 0 (by omega); omega), firstE_zero]
  intro i hi
  rw [hl] at hi
  unfold rowE
  rw [hr i hi, hr 0 (by omega), if_pos rfl, if_pos]
  refine belowB_iff.2 fun x hx => ?_
  rw [hg i hi] at hx
  obtain ⟨y, hy, rfl⟩ := List.mem_map.1 hx
  have := h.rowBd hi y hy
  omega
/-- A division of m things among n finders. -/
structure OKD (o : List Int) (n m : Nat) : Prop where
  len : o.length = m
  bd : ∀ x ∈ o, 0 ≤ x ∧ x < (n : Int)
theorem div_ok {vs : List (List Nat)} {n m : Nat} {o : List Int} (h : OKV vs n m) (he : divE (ILL vs) o = 0) : OKD o n m := by
  have hl : (ILL vs).length = n := by simp [h.len]
  have hr : ((ILL vs).getD 0 []).length = m := by rw [map_getD (a := []) (by rw [h.len]; exact h.pos), List.length_map, h.rowLen h.pos]
  unfold divE at he
  rw [if_neg (by rw [vals_intro h]; simp), hr, hl] at he
  split at he
  · cases he
  · rename_i h1
    split at he
    · rename_i h2; exact ⟨by omega, belowB_iff.1 h2⟩
    · cases he
theorem div_intro {vs : List (List Nat)} {n m : Nat} {o : List Int} (h : OKV vs n m) (ho : OKD o n m) : divE (ILL vs) o = 0 := by
  have hl : (ILL vs).length = n := by simp [h.len]
  have hr : ((ILL vs).getD 0 []).length = m := by rw [map_getD (a := []) (by rw [h.len]; exact h.pos), List.length_map, h.rowLen h.pos]
  unfold divE
  rw [if_neg (by rw [vals_intro h]; simp), hr, hl, if_neg (by rw [ho.len]; simp), if_pos (belowB_iff.2 ho.bd)]
theorem div_vals {fs : List (List Int)} {o : List Int} (h : divE fs o = 0) : valsE fs = 0 := by
  unfold divE at h
  split at h
  · rename_i h1; exact absurd h h1
  · rename_i h1; exact Decidable.not_not.1 h1

theorem shr_snoc {o : List Int} {w : Int} {j : Nat} : shr (o ++ [w]) j = if w = (j : Int) then shr o j ||| 2 ^ o.length else shr o j := by
  refine Nat.eq_of_testBit_eq fun i => ?_
  have h1 := @shr_bit (o ++ [w]) j i
  have h2 := @shr_bit o j i
  rw [List.length_append, List.length_singleton] at h1
  rw [Bool.eq_iff_iff, h1]
  have hg : ∀ k, k < o.length → (o ++ [w]).getD k (-1) = o.getD k (-1) := fun k hk => getD_app_l hk
  by_cases hi : i < o.length
  · rw [hg i hi]
    have e1 : i < o.length + 1 := by omega
    split
    · rw [Nat.testBit_or, Bool.or_eq_true, h2, Nat.testBit_two_pow, decide_eq_true_eq]
      constructor
      · rintro ⟨_, h⟩; exact .inl ⟨hi, h⟩
      · rintro (⟨_, h⟩ | h)
        · exact ⟨e1, h⟩
        · omega
    · rw [h2]; exact ⟨fun ⟨_, h⟩ => ⟨hi, h⟩, fun ⟨_, h⟩ => ⟨e1, h⟩⟩
  · by_cases he : i = o.length
    · subst he
      rw [getD_snoc]
      split
      · rename_i h; rw [Nat.testBit_or, Nat.testBit_two_pow]; simp [h]
      · rename_i h; rw [h2]; simp [h]
    · split
      · rw [Nat.testBit_or, Bool.or_eq_true, h2, Nat.testBit_two_pow, decide_eq_true_eq]
        constructor
        · rintro ⟨h, _⟩; omega
        · rintro (⟨h, _⟩ | h) <;> omega
      · rw [h2]
        constructor
        · rintro ⟨h, _⟩; omega
        · rintro ⟨h, _⟩; omega
theorem shs_snoc {n : Nat} {o : List Int} {w : Nat} (hw : w < n) : shs n (o ++ [(w : Int)]) = (shs n o).set w ((shs n o).getD w 0 ||| 2 ^ o.length) := by
  refine ext_getD (a := 0) (by simp [shs]) fun i hi => ?_
  rw [shs_len] at hi
  rw [shs_get _ hi, getD_set' (by rw [shs_len]; exact hw), shr_snoc, shs_get _ hw, shs_get _ hi]
  by_cases h : i = w
  · subst h; rw [if_pos rfl, if_pos rfl]
  · rw [if_neg h, if_neg (by omega)]
theorem shs_nil (n : Nat) : shs n [] = List.replicate n 0 := by
  refine ext_getD (a := 0) (by simp [shs]) fun i hi => ?_
  rw [shs_len] at hi
  rw [shs_get _ hi, getD_eq (by simpa using hi), List.getElem_replicate]; rfl
theorem same_sl (a : Addr) (k c : Nat) : same1 (.slice (some a) k c) (.slice (some a) k c) = true := by simp [same1, same0, sameAddr_refl]
theorem take_snoc {o : List Int} {k : Nat} (h : k < o.length) : o.take (k + 1) = o.take k ++ [o.getD k 0] := by rw [getD_eq h, List.take_succ_eq_append_getElem h]
theorem shs_lt {n : Nat} {o : List Int} {m : Nat} (h : o.length ≤ m) : ∀ s ∈ shs n o, s < 2 ^ m := fun s hs => by
  obtain ⟨j, _, rfl⟩ := List.mem_map.1 hs
  exact Nat.lt_of_lt_of_le (shr_lt o j) (Nat.pow_le_pow_right (by omega) h)
attribute [local irreducible] gOK WS WC WR WD Ends FS YS OpV seqK blockK loopK midK retK rdK asgK rangeEnd sat Cell

section
variable {M : HL} {n0 : Nat} {H : Heap} {v w : Value}
theorem below_fs (hH : hasH M n0 H) {xs : List Int} (hS : Sl M 1 v (ints xs)) (hl : xs.length ≤ 1000) (n : Int) :
    FS C 83 [.int .i64 n, v] H (fun e H' => e = .bool (belowB n xs) ∧ H' = H) := by
  refine FS.intro (pf := pf83) rfl rfl rfl ?_
  repeat' (first | refine zP ?_ | refine zA ?_ | (refine zM ?_; intro _ _) | refine zX ?_ | (refine zC ?_; intro _ _ _ _) | (refine zS ?_; intro _ _) | (apply Ws <;> intro hg))
  refine WC.loopX [(0, _), (7, _), (8, _)] (fun k : Nat => [(9, .int .i64 (k : Int))]) [] (fun k H' => H' = H ∧ k ≤ xs.length ∧ ∀ j, j < k → 0 ≤ xs.getD j 0 ∧ xs.getD j 0 < n) (fun k => xs.length - k) 0 (by repeat' (first | exact .nil | refine .cons rfl ?_)) rfl ⟨rfl, Nat.zero_le _, fun j h => absurd h (Nat.not_lt_zero _)⟩ ?_
  rintro k H' ⟨rfl, hk, hno⟩
  dsimp only [List.cons_append, List.nil_append]
  repeat' (first | refine zP ?_ | refine zA ?_ | (refine zM ?_; intro _ _) | refine zX ?_ | (refine zC ?_; intro _ _ _ _) | (refine zS ?_; intro _ _) | (apply Ws <;> intro hg))
  refine WC.condP rfl (fun hlt => ?_) (fun hlt => ?_)
  · have hk' : k < xs.length := by omega
    by_cases h1 : 0 ≤ xs.getD k 0 ∧ xs.getD k 0 < n
    · repeat' (first | refine zP ?_ | refine zA ?_ | (refine zM ?_; intro _ _) | refine zX ?_ | (refine zC ?_; intro _ _ _ _) | (refine zS ?_; intro _ _) | refine zO ?_ | (apply Ws <;> intro hg))
      refine Ends.loop (k + 1) (by omega) (by repeat' (first | exact .nil | refine .cons rfl ?_)) rfl ⟨rfl, hk', fun j hj => ?_⟩
      rcases Nat.lt_or_ge j k with h3 | h3
      · exact hno j h3
      · have : j = k := by omega
        subst this; exact h1
    · have hf : belowB n xs = false := by
        cases h : belowB n xs with
        | false => rfl
        | true => exact absurd (belowB_iff.1 h _ (getD_mem hk')) h1
      by_cases h2 : xs.getD k 0 < 0
      · repeat' (first | refine zP ?_ | refine zA ?_ | (refine zM ?_; intro _ _) | refine zX ?_ | (refine zC ?_; intro _ _ _ _) | (refine zS ?_; intro _ _) | refine zO ?_ | (apply Ws <;> intro hg))
        exact Ends.ret1 rfl ⟨by rw [hf], rfl⟩
      · repeat' (first | refine zP ?_ | refine zA ?_ | (refine zM ?_; intro _ _) | refine zX ?_ | (refine zC ?_; intro _ _ _ _) | (refine zS ?_; intro _ _) | refine zO ?_ | (apply Ws <;> intro hg))
        exact Ends.ret1 rfl ⟨by rw [hf], rfl⟩
  · repeat' (first | refine zP ?_ | refine zA ?_ | (refine zM ?_; intro _ _) | refine zX ?_ | (refine zC ?_; intro _ _ _ _) | (refine zS ?_; intro _ _) | (apply Ws <;> intro hg))
    refine Ends.ret1 rfl ⟨?_, rfl⟩
    have : belowB n xs = true := belowB_iff.2 fun x hx => by
      obtain ⟨i, hi, rfl⟩ := List.mem_iff_getElem.1 hx
      have := hno i (by omega)
      rwa [getD_eq hi] at this
    rw [this]

theorem Check_fs (hH : hasH M n0 H) {fs : List (List Int)} (hR : RowsI M v fs) (hl : fs.length ≤ 1000) (hll : ∀ l ∈ fs, l.length ≤ 1000) :
    FS C 27 [v] H (fun e H' => e = .int .i64 (valsE fs) ∧ H' = H) := by
  obtain ⟨ws, hW, hwl, hws⟩ := hR
  refine FS.intro (pf := pf27) rfl rfl rfl ?_
  by_cases h0 : fs.length = 0
  · have : valsE fs = 4 := by unfold valsE; rw [if_pos h0]
    rw [this]
    repeat' (first | refine zP ?_ | refine zA ?_ | (refine zM ?_; intro _ _) | refine zX ?_ | (refine zC ?_; intro _ _ _ _) | (refine zS ?_; intro _ _) | refine zO ?_ | (apply Ws <;> intro hg))
    exact Ends.ret1 rfl ⟨rfl, rfl⟩
  have hr0 := hws 0 (by omega)
  by_cases h1 : 4 < fs.length
  · have : valsE fs = 3 := by unfold valsE; rw [if_neg h0, if_pos (.inl h1)]
    rw [this]
    repeat' (first | refine zP ?_ | refine zA ?_ | (refine zM ?_; intro _ _) | refine zX ?_ | (refine zC ?_; intro _ _ _ _) | (refine zS ?_; intro _ _) | refine zO ?_ | (apply Ws <;> intro hg))
    exact Ends.ret1 rfl ⟨rfl, rfl⟩
  by_cases h2 : 6 < (fs.getD 0 []).length
  · have : valsE fs = 3 := by unfold valsE; rw [if_neg h0, if_pos (.inr h2)]
    rw [this]
    repeat' (first | refine zP ?_ | refine zA ?_ | (refine zM ?_; intro _ _) | refine zX ?_ | (refine zC ?_; intro _ _ _ _) | (refine zS ?_; intro _ _) | refine zO ?_ | (apply Ws <;> intro hg))
    exact Ends.ret1 rfl ⟨rfl, rfl⟩
  have hE : valsE fs = firstE (fun i => rowE (fs.getD 0 []).length (fs.getD i [])) fs.length := by unfold valsE; rw [if_neg h0, if_neg (by omega)]
  repeat' (first | refine zP ?_ | refine zA ?_ | (refine zM ?_; intro _ _) | refine zX ?_ | (refine zC ?_; intro _ _ _ _) | (refine zS ?_; intro _ _) | refine zO ?_ | (apply Ws <;> intro hg))
  refine WC.loopX [(0, _), (18, _), (19, _)] (fun k : Nat => [(20, .int .i64 (k : Int))]) [] (fun k H' => H' = H ∧ k ≤ fs.length ∧ firstE (fun i => rowE (fs.getD 0 []).length (fs.getD i [])) k = 0) (fun k => fs.length - k) 0 (by repeat' (first | exact .nil | refine .cons rfl ?_)) rfl ⟨rfl, Nat.zero_le _, rfl⟩ ?_
  rintro k H' ⟨rfl, hk, hno⟩
  dsimp only [List.cons_append, List.nil_append]
  repeat' (first | refine zP ?_ | refine zA ?_ | (refine zM ?_; intro _ _) | refine zX ?_ | (refine zC ?_; intro _ _ _ _) | (refine zS ?_; intro _ _) | (apply Ws <;> intro hg))
  refine WC.condP rfl (fun hlt => ?_) (fun hlt => ?_)
  · have hk' : k < fs.length := by omega
    have hrk := hws k hk'
    have hlk := hll _ (getD_mem (a := []) hk')
    by_cases h3 : (fs.getD k []).length = (fs.getD 0 []).length
    · repeat' (first | refine zP ?_ | refine zA ?_ | (refine zM ?_; intro _ _) | refine zX ?_ | (refine zC ?_; intro _ _ _ _) | (refine zS ?_; intro _ _) | refine zO ?_ | (apply Ws <;> intro hg))
      refine WR.call (by first | exact gN | exact gS rfl) rfl rfl (below_fs hH hrk hlk _) ?_
      rintro _ _ ⟨rfl, rfl⟩
      cases hb : belowB 21 (fs.getD k []) with
      | true =>
        repeat' (first | refine zP ?_ | refine zA ?_ | (refine zM ?_; intro _ _) | refine zX ?_ | (refine zC ?_; intro _ _ _ _) | (refine zS ?_; intro _ _) | refine zO ?_ | (apply Ws <;> intro hg))
        refine Ends.loop (k + 1) (by omega) (by repeat' (first | exact .nil | refine .cons rfl ?_)) rfl ⟨rfl, hk', firstE_succ hno ?_⟩
        show rowE _ _ = 0
        unfold rowE
        rw [if_pos h3, if_pos hb]
      | false =>
        repeat' (first | refine zP ?_ | refine zA ?_ | (refine zM ?_; intro _ _) | refine zX ?_ | (refine zC ?_; intro _ _ _ _) | (refine zS ?_; intro _ _) | refine zO ?_ | (apply Ws <;> intro hg))
        refine Ends.ret1 rfl ⟨?_, rfl⟩
        have h4 : rowE (fs.getD 0 []).length (fs.getD k []) = 1 := by unfold rowE; rw [if_pos h3, if_neg (by rw [hb]; decide)]
        rw [hE, firstE_at hno (by show rowE _ _ ≠ 0; rw [h4]; decide) hk']
        show _ = Value.int .i64 (rowE _ _)
        rw [h4]
    · repeat' (first | refine zP ?_ | refine zA ?_ | (refine zM ?_; intro _ _) | refine zX ?_ | (refine zC ?_; intro _ _ _ _) | (refine zS ?_; intro _ _) | refine zO ?_ | (apply Ws <;> intro hg))
      refine Ends.ret1 rfl ⟨?_, rfl⟩
      have h4 : rowE (fs.getD 0 []).length (fs.getD k []) = 5 := by unfold rowE; rw [if_neg h3]
      rw [hE, firstE_at hno (by show rowE _ _ ≠ 0; rw [h4]; decide) hk']
      show _ = Value.int .i64 (rowE _ _)
      rw [h4]
  · have hkl : k = fs.length := by omega
    subst hkl
    repeat' (first | refine zP ?_ | refine zA ?_ | (refine zM ?_; intro _ _) | refine zX ?_ | (refine zC ?_; intro _ _ _ _) | (refine zS ?_; intro _ _) | (apply Ws <;> intro hg))
    exact Ends.ret1 rfl ⟨by rw [hE, hno], rfl⟩

theorem give_fs {b e : Nat} {ss : List Nat} {vv : Value} {cp : Nat} (hH : hasH ((b, .row e 0 0 (u64s ss)) :: M) n0 H) (hv : one vv = true) {j x N : Nat} (hj : j ≤ 61) (hN : ss.length = N) (hx : x < N) (hb : ∀ s ∈ ss, s < 2 ^ 62) :
    FS C 114 [.agg [vv, .slice (some ⟨b, 0, some 0⟩) N cp].toArray, .int .i64 (j : Int), .int .i64 (x : Int)] H (fun _ H' => ∃ n', n0 ≤ n' ∧ hasH ((b, .row e 0 0 (u64s (ss.set x (ss.getD x 0 ||| 2 ^ j)))) :: M) n' H') := by
  have hlt := hb _ (getD_mem (a := 0) (show x < ss.length by omega))
  refine FS.intro (pf := pf114) rfl rfl rfl ?_
  repeat' (first | refine zP ?_ | refine zA ?_ | (refine zM ?_; intro _ _) | refine zX ?_ | (refine zC ?_; intro _ _ _ _) | (refine zS ?_; intro _ _) | (apply Ws <;> intro hg))
  rename_i H1 hH1
  refine WC.regionD ?_
  repeat' (first | refine zD ?_ | (refine zE ?_; intro _ _ _ _))
  refine WD.call (by first | exact gN | exact gS rfl) rfl rfl (only_fs (by omega) _) ?_
  rintro _ _ ⟨rfl, rfl⟩
  refine ⟨stands_cons (.inr (holds_at (hH1.read (.tail _ (.head _)) (.row _ _ _ _) (Nat.zero_le _) (nodes_get (by omega))) (same_int _ _))) (stands_cons (.inr (holds_at (hH1.read (.head _) (.row _ _ _ _) (Nat.zero_le _) rfl) (same_sl _ _ _))) stands_nil'), ?_⟩
  refine WD.toWR rfl ?_
  refine WR.op (by first | exact gN | exact gS rfl) rfl (OpV.orN rfl rfl (by show ss.getD x 0 < 2 ^ 64; omega) (by show 2 ^ j < 2 ^ 64; exact Nat.pow_lt_pow_right (by omega) (by omega))) ?_
  repeat' (first | refine zP ?_ | refine zA ?_ | (refine zM ?_; intro _ _) | refine zX ?_ | (refine zC ?_; intro _ _ _ _) | (refine zS ?_; intro _ _) | (apply Ws <;> intro hg))
  rename_i H2 hH2
  exact Ends.end0 ⟨n0 + 1, by omega, hH2.tail⟩
end
end Go.Proofs.Ytaipmdhnhffckaa.Sh

namespace Go.Abs
set_option linter.unusedSectionVars false
variable [Globs]
open Go
section
variable {C : CW} {nt : Nat} {L : Env} {D : List Nat} {H : Heap} {K : St → Prop} {M M' : HL} {n : Nat} {gd : Option (Tmp × Bool)} {lo : List Nat} {l : List POp}
/-- Two cells. -/
theorem WR.store2 {i : Nat} {x y : Operand} {v w : Value} {a c : Value} {b e u : Nat} (hg : gOK L gd) (hH : hasH M n H) (hx : ev L x = some (.pointer (some ⟨b, 0, some u⟩))) (hy : ev L y = some (.agg [v, w].toArray)) (h1 : one v = true) (h2 : one w = true)
    (hu : Upd M b (.row e u 0 [a, c]) (.row e u 0 [v, w]) M') (k : ∀ H', hasH M' n H' → WR C nt l L D H' K) : WR C nt (⟨i, none, .store x y 2, gd, lo⟩ :: l) L D H K :=
  WR.storeAll hg hH hx hy (ls := [v, w]) rfl rfl hu (by simp [h1, h2]) rfl k
theorem Ends.retCN1 {a b k : Nat} {p : Addr} {l : List Value} {v : Value} {R : Value → Heap → Prop} (hx : ev L (.tmp a) = some (.pointer (some p))) (hr : H.readN p k = some l) (hy : ev L (.tmp b) = some v) (h : R (.tuple #[.agg l.toArray, v]) H) : Ends (retK [.cell a (some k), .tmp b] R) .ret L [] H := by
  refine Ends.ret_of trivial fun t ht => ⟨_, H, ?_, h⟩
  simp only [takeAll, leaveC, resultOf, ev_ok ht hx, hr, ev_ok ht hy, retVal]
end
end Go.Abs
namespace Go.Proofs.Ytaipmdhnhffckaa.Sh
open Go Go.Abs Go.Mth
set_option linter.unusedVariables false
set_option linter.unusedSimpArgs false
theorem shs_mem62 {n : Nat} {o : List Int} (h : o.length ≤ 61) : ∀ s ∈ shs n o, s < 2 ^ 62 := fun s hs => by
  have := shs_lt (n := n) (m := 61) h s hs
  have : (2 : Nat) ^ 61 < 2 ^ 62 := by decide
  omega
theorem read2 {M : HL} {n b e : Nat} {H : Heap} {v w : Value} (hH : hasH M n H) (hm : (b, Ch.row e 0 0 [v, w]) ∈ M) : H.readN ⟨b, 0, some 0⟩ 2 = some [v, w] := by
  have := hH.readN (b := b) (u := 0) (lo := 0) (o := 0) (k := 2) hm (.row _ _ _ _) (Nat.le_refl _) (by simp)
  simpa using this
structure KN where
  k : Nat
  n : Nat
attribute [local irreducible] gOK WS WC WR WD Ends FS YS OpV seqK blockK loopK midK retK rdK asgK rangeEnd sat Cell
section
variable {M : HL} {n0 : Nat} {H : Heap} {v w : Value}
theorem divide_fs (hH : hasH M n0 H) {ws : List Value} (hV : Sl M 1 v ws) (hN : ws.length ≤ 1000) {o : List Int} (hO : Sl M 1 w (ints o)) (hol : o.length ≤ 61) (hob : ∀ x ∈ o, 0 ≤ x ∧ x < (ws.length : Int)) :
    FS C 92 [v, w] H (fun e H' => ∃ b n', n0 ≤ n' ∧ e = .agg [v, .slice (some ⟨b, 0, some 0⟩) ws.length (2 * ws.length + 1)].toArray ∧ hasH ((b, .row 116 0 0 (u64s (shs ws.length o))) :: M) n' H') := by
  have hv1 := hV.one_
  obtain ⟨av, cv, hv⟩ := hV.len
  subst hv
  refine FS.intro (pf := pf92) rfl rfl rfl ?_
  repeat' (first | refine zP ?_ | refine zA ?_ | (refine zM ?_; intro _ _) | refine zX ?_ | (refine zC ?_; intro _ _ _ _) | (refine zS ?_; intro _ _) | (apply Ws <;> intro hg))
  refine WR.mkSL (by first | exact gN | exact gS rfl) rfl (by assumption) rfl rfl (by omega) rfl fun H2 hH2 => ?_
  rw [rep_u64s] at hH2
  refine WR.op (by first | exact gN | exact gS rfl) rfl (OpV.bldT (cs := [.slice av ws.length cv, .slice (some ⟨n0 + 1, 0, some 0⟩) ws.length (2 * ws.length + 1)].toArray) rfl rfl) ?_
  repeat' (first | refine zP ?_ | refine zA ?_ | (refine zM ?_; intro _ _) | refine zX ?_ | (refine zC ?_; intro _ _ _ _) | (refine zS ?_; intro _ _) | (apply Ws <;> intro hg))
  rename_i H3 hH3
  refine WR.store2 (by first | exact gN | exact gS rfl) hH3 rfl rfl hv1 rfl .here fun H4 hH4 => ?_
  replace hH4 := hH4.swap
  clear hH3 hH2
  have hO4 := (((hO.cons (p := (n0, Ch.row 78 0 0 [.slice none 0 0, .slice none 0 0]))).cons (p := (n0 + 1 + 1, Ch.row 78 0 0 [.slice av ws.length cv, .slice (some ⟨n0 + 1, 0, some 0⟩) ws.length (2 * ws.length + 1)])))).cons (p := (n0 + 1, Ch.row 116 0 0 (u64s (List.replicate ws.length 0))))
  repeat' (first | refine zP ?_ | refine zA ?_ | (refine zM ?_; intro _ _) | refine zX ?_ | (refine zC ?_; intro _ _ _ _) | (refine zS ?_; intro _ _) | (apply Ws <;> intro hg))
  refine WC.loopX [(0, _), (1, _), (4, _), (5, _), (13, _), (14, _)] (fun s : KN => [(15, .int .i64 (s.k : Int))]) []
    (fun s H' => s.k ≤ o.length ∧ n0 ≤ s.n ∧ hasH ((n0 + 1, .row 116 0 0 (u64s (shs ws.length (o.take s.k)))) :: (n0 + 1 + 1, .row 78 0 0 [.slice av ws.length cv, .slice (some ⟨n0 + 1, 0, some 0⟩) ws.length (2 * ws.length + 1)]) :: (n0, .row 78 0 0 [.slice none 0 0, .slice none 0 0]) :: M) s.n H') (fun s => o.length - s.k) ⟨0, n0 + 1 + 1 + 1⟩ (by repeat' (first | exact .nil | refine .cons rfl ?_)) rfl
    ⟨Nat.zero_le _, by simp only; omega, by simp only [List.take_zero, shs_nil]; exact hH4⟩ ?_
  clear hH4
  rintro ⟨k, n1⟩ H5 ⟨hk, hn1, hH5⟩
  simp only at hk hn1 hH5
  have hO5 : Sl ((n0 + 1, Ch.row 116 0 0 (u64s (shs ws.length (o.take k)))) :: (n0 + 1 + 1, Ch.row 78 0 0 [.slice av ws.length cv, .slice (some ⟨n0 + 1, 0, some 0⟩) ws.length (2 * ws.length + 1)]) :: (n0, Ch.row 78 0 0 [.slice none 0 0, .slice none 0 0]) :: M) 1 w (ints o) := hO.cons.cons.cons
  dsimp only [List.cons_append, List.nil_append]
  repeat' (first | refine zP ?_ | refine zA ?_ | (refine zM ?_; intro _ _) | refine zX ?_ | (refine zC ?_; intro _ _ _ _) | (refine zS ?_; intro _ _) | (apply Ws <;> intro hg))
  refine WC.condP rfl (fun hlt => ?_) (fun hlt => ?_)
  · have hk' : k < o.length := by omega
    have hx := hob _ (getD_mem (a := 0) hk')
    repeat' (first | refine zP ?_ | refine zA ?_ | (refine zM ?_; intro _ _) | refine zX ?_ | (refine zC ?_; intro _ _ _ _) | (refine zS ?_; intro _ _) | (apply Ws <;> intro hg))
    obtain ⟨x, hxe⟩ : ∃ x : Nat, o.getD k 0 = x := ⟨(o.getD k 0).toNat, by omega⟩
    rw [hxe]
    refine WR.call (by first | exact gN | exact gS rfl) rfl rfl (give_fs hH5 hv1 (by omega) (shs_len _ _) (show x < ws.length by omega) (shs_mem62 (by rw [List.length_take]; omega))) ?_
    rintro _ H6 ⟨n6, hn6, hH6⟩
    repeat' (first | refine zP ?_ | refine zA ?_ | (refine zM ?_; intro _ _) | refine zX ?_ | (refine zC ?_; intro _ _ _ _) | (refine zS ?_; intro _ _) | (apply Ws <;> intro hg))
    rw [show (k : Int) + 1 = ((k + 1 : Nat) : Int) by omega]
    refine Ends.loop ⟨k + 1, n6⟩ (by simp only; omega) (by repeat' (first | exact .nil | refine .cons rfl ?_)) rfl ⟨hk', by simp only; omega, ?_⟩
    simp only
    rw [take_snoc hk', hxe, shs_snoc (by omega), List.length_take, Nat.min_eq_left (by omega)]
    exact hH6
  · have hkl : k = o.length := by omega
    subst hkl
    rw [List.take_length] at hH5
    repeat' (first | refine zP ?_ | refine zA ?_ | (refine zM ?_; intro _ _) | refine zX ?_ | (refine zC ?_; intro _ _ _ _) | (refine zS ?_; intro _ _) | (apply Ws <;> intro hg))
    refine WR.store2 (by first | exact gN | exact gS rfl) hH5 rfl rfl hv1 rfl (.there (.there .here)) fun H7 hH7 => ?_
    repeat' (first | refine zP ?_ | refine zA ?_ | (refine zM ?_; intro _ _) | refine zX ?_ | (refine zC ?_; intro _ _ _ _) | (refine zS ?_; intro _ _) | (apply Ws <;> intro hg))
    exact Ends.retCN rfl (read2 hH7 (.tail _ (.tail _ (.head _)))) ⟨n0 + 1, n1, hn1, rfl, hH7.sub (.cons_cons _ ((List.sublist_cons_self _ _).trans (List.sublist_cons_self _ _)))⟩

/-- A division, or the error. -/
theorem checked_fs (hH : hasH M n0 H) {fs : List (List Int)} (hR : RowsI M v fs) (hl : fs.length ≤ 1000) (hll : ∀ l ∈ fs, l.length ≤ 1000) {o : List Int} (hO : Sl M 1 w (ints o)) (hol : o.length ≤ 1000) :
    FS C 70 [v, w] H (fun e H' => ∃ n', n0 ≤ n' ∧ ((divE fs o ≠ 0 ∧ e = .tuple #[.agg [.slice none 0 0, .slice none 0 0].toArray, .int .i64 (divE fs o)] ∧ hasH M n' H') ∨
      (divE fs o = 0 ∧ ∃ b, e = .tuple #[.agg [v, .slice (some ⟨b, 0, some 0⟩) fs.length (2 * fs.length + 1)].toArray, .int .i64 0] ∧ hasH ((b, .row 116 0 0 (u64s (shs fs.length o))) :: M) n' H'))) := by
  have hv1 := hR.one_
  obtain ⟨ws, hW, hwl, hws⟩ := id hR
  refine FS.intro (pf := pf70) rfl rfl rfl ?_
  repeat' (first | refine zP ?_ | refine zA ?_ | (refine zM ?_; intro _ _) | refine zX ?_ | (refine zC ?_; intro _ _ _ _) | (refine zS ?_; intro _ _) | (apply Ws <;> intro hg))
  rename_i H1 hH1
  refine WR.call (by first | exact gN | exact gS rfl) rfl rfl (Check_fs hH1 hR.cons hl hll) ?_
  rintro _ _ ⟨rfl, rfl⟩
  by_cases h1 : valsE fs = 0
  · have hl0 : 0 < fs.length := by
      refine Nat.pos_of_ne_zero fun h => ?_
      unfold valsE at h1
      rw [if_pos h] at h1; cases h1
    obtain ⟨vs, n, m, rfl, hV⟩ := vals_ok h1
    have hfl : (ILL vs).length = n := by simp [hV.len]
    have h0 := hws 0 hl0
    have hW1 : Sl ((n0, Ch.row 78 0 0 [.slice none 0 0, .slice none 0 0]) :: M) 1 v ws := hW.cons
    have h01 : Sl ((n0, Ch.row 78 0 0 [.slice none 0 0, .slice none 0 0]) :: M) 1 (ws.getD 0 undef) (ints ((ILL vs).getD 0 [])) := h0.cons
    have hr0 : ((ILL vs).getD 0 []).length = m := by rw [map_getD (a := []) (by rw [hV.len]; exact hV.pos), List.length_map, hV.rowLen hV.pos]
    rw [h1]
    repeat' (first | refine zP ?_ | refine zA ?_ | (refine zM ?_; intro _ _) | refine zX ?_ | (refine zC ?_; intro _ _ _ _) | (refine zS ?_; intro _ _) | refine zO ?_ | (apply Ws <;> intro hg))
    by_cases h2 : o.length = m
    · have hd : divE (ILL vs) o = if belowB (n : Int) o = true then 0 else 2 := by unfold divE; rw [if_neg (by omega), hr0, hfl, if_neg (by omega)]
      repeat' (first | refine zP ?_ | refine zA ?_ | (refine zM ?_; intro _ _) | refine zX ?_ | (refine zC ?_; intro _ _ _ _) | (refine zS ?_; intro _ _) | refine zO ?_ | (apply Ws <;> intro hg))
      rw [hwl, hfl]
      repeat' (first | refine zP ?_ | refine zA ?_ | (refine zM ?_; intro _ _) | refine zX ?_ | (refine zC ?_; intro _ _ _ _) | (refine zS ?_; intro _ _) | (apply Ws <;> intro hg))
      refine WR.call (by first | exact gN | exact gS rfl) rfl rfl (below_fs hH1 hO.cons hol _) ?_
      rintro _ _ ⟨rfl, rfl⟩
      cases hb : belowB (n : Int) o with
      | true =>
        rw [hb, if_pos rfl] at hd
        repeat' (first | refine zP ?_ | refine zA ?_ | (refine zM ?_; intro _ _) | refine zX ?_ | (refine zC ?_; intro _ _ _ _) | (refine zS ?_; intro _ _) | refine zO ?_ | (apply Ws <;> intro hg))
        refine WR.call (by first | exact gN | exact gS rfl) rfl rfl (divide_fs hH1 hW1 (by omega) hO.cons (by have := hV.m6; omega) (by rw [hwl, hfl]; exact belowB_iff.1 hb)) ?_
        rintro _ H2 ⟨b, n2, hn2, rfl, hH2⟩
        rw [hwl, hfl] at hH2 ⊢
        repeat' (first | refine zP ?_ | refine zA ?_ | (refine zM ?_; intro _ _) | refine zX ?_ | (refine zC ?_; intro _ _ _ _) | (refine zS ?_; intro _ _) | (apply Ws <;> intro hg))
        refine WR.store2 (by first | exact gN | exact gS rfl) hH2 rfl rfl hv1 rfl (.there .here) fun H3 hH3 => ?_
        repeat' (first | refine zP ?_ | refine zA ?_ | (refine zM ?_; intro _ _) | refine zX ?_ | (refine zC ?_; intro _ _ _ _) | (refine zS ?_; intro _ _) | (apply Ws <;> intro hg))
        exact Ends.retCN1 rfl (read2 hH3 (.tail _ (.head _))) rfl ⟨n2, by omega, .inr ⟨hd, b, rfl, hH3.sub (.cons_cons _ (List.sublist_cons_self _ _))⟩⟩
      | false =>
        rw [hb, if_neg (by decide)] at hd
        repeat' (first | refine zP ?_ | refine zA ?_ | (refine zM ?_; intro _ _) | refine zX ?_ | (refine zC ?_; intro _ _ _ _) | (refine zS ?_; intro _ _) | refine zO ?_ | (apply Ws <;> intro hg))
        refine WR.op (by first | exact gN | exact gS rfl) rfl (OpV.bldT (cs := [.slice none 0 0, .slice none 0 0].toArray) rfl rfl) ?_
        refine WR.store2 (by first | exact gN | exact gS rfl) hH1 rfl rfl rfl rfl .here fun H3 hH3 => ?_
        repeat' (first | refine zP ?_ | refine zA ?_ | (refine zM ?_; intro _ _) | refine zX ?_ | (refine zC ?_; intro _ _ _ _) | (refine zS ?_; intro _ _) | (apply Ws <;> intro hg))
        exact Ends.retCN1 rfl (read2 hH3 (.head _)) rfl ⟨n0 + 1, by omega, .inl ⟨by omega, by rw [hd], hH3.tail⟩⟩
    · have hd : divE (ILL vs) o = 5 := by unfold divE; rw [if_neg (by omega), hr0, if_pos (by omega)]
      repeat' (first | refine zP ?_ | refine zA ?_ | (refine zM ?_; intro _ _) | refine zX ?_ | (refine zC ?_; intro _ _ _ _) | (refine zS ?_; intro _ _) | refine zO ?_ | (apply Ws <;> intro hg))
      refine WR.op (by first | exact gN | exact gS rfl) rfl (OpV.bldT (cs := [.slice none 0 0, .slice none 0 0].toArray) rfl rfl) ?_
      refine WR.store2 (by first | exact gN | exact gS rfl) hH1 rfl rfl rfl rfl .here fun H3 hH3 => ?_
      repeat' (first | refine zP ?_ | refine zA ?_ | (refine zM ?_; intro _ _) | refine zX ?_ | (refine zC ?_; intro _ _ _ _) | (refine zS ?_; intro _ _) | (apply Ws <;> intro hg))
      exact Ends.retCN1 rfl (read2 hH3 (.head _)) rfl ⟨n0 + 1, by omega, .inl ⟨by omega, by rw [hd], hH3.tail⟩⟩
  · have hd : divE fs o = valsE fs := by unfold divE; rw [if_pos h1]
    repeat' (first | refine zP ?_ | refine zA ?_ | (refine zM ?_; intro _ _) | refine zX ?_ | (refine zC ?_; intro _ _ _ _) | (refine zS ?_; intro _ _) | refine zO ?_ | (apply Ws <;> intro hg))
    refine WR.op (by first | exact gN | exact gS rfl) rfl (OpV.bldT (cs := [.slice none 0 0, .slice none 0 0].toArray) rfl rfl) ?_
    repeat' (first | refine zP ?_ | refine zA ?_ | (refine zM ?_; intro _ _) | refine zX ?_ | (refine zC ?_; intro _ _ _ _) | (refine zS ?_; intro _ _) | (apply Ws <;> intro hg))
    refine WR.store2 (by first | exact gN | exact gS rfl) hH1 rfl rfl rfl rfl .here fun H3 hH3 => ?_
    repeat' (first | refine zP ?_ | refine zA ?_ | (refine zM ?_; intro _ _) | refine zX ?_ | (refine zC ?_; intro _ _ _ _) | (refine zS ?_; intro _ _) | (apply Ws <;> intro hg))
    exact Ends.retCN1 rfl (read2 hH3 (.head _)) rfl ⟨n0 + 1, by omega, .inl ⟨by omega, by rw [hd], hH3.tail⟩⟩
end
end Go.Proofs.Ytaipmdhnhffckaa.Sh

/- The greatest product of own shares: nobody envies anybody by more than one thing, and nothing is better. -/
namespace Go.Proofs.Ytaipmdhnhffckaa.Sh
open Go Go.Abs Go.Mth
set_option linter.unusedVariables false
set_option linter.unusedSimpArgs false

def prodN (q : Nat → Nat) : Nat → Nat
  | 0 => 1
  | k + 1 => prodN q k * q k
def posQ (w : Nat → Nat) (i : Nat) : Nat := if 0 < w i then w i else 1
def posC (w : Nat → Nat) (i : Nat) : Nat := if 0 < w i then 1 else 0
/-- How many own shares are worth something, and the product of these. -/
def manyW (w : Nat → Nat) (n : Nat) : Nat := sumN (posC w) n
def prodW (w : Nat → Nat) (n : Nat) : Nat := prodN (posQ w) n
def gtG (a b : Nat × Nat) : Bool := decide (b.1 < a.1) || (decide (b.1 = a.1) && decide (b.2 < a.2))
def gainW (w : Nat → Nat) (n : Nat) : Nat × Nat := (manyW w n, prodW w n)
end Go.Proofs.Ytaipmdhnhffckaa.Sh

namespace Go.Abs
set_option linter.unusedSectionVars false
variable [Globs]
open Go
section
variable {C : CW} {nt : Nat} {L : Env} {D : List Nat} {H : Heap} {K : St → Prop} {M M' : HL} {n i d : Nat} {gd : Option (Tmp × Bool)} {lo : List Nat} {l : List POp} {rs : List Rd}
theorem WD.callV {f : Operand} {g : FuncId} {va vb : List Value} {xs : List Operand} {vs : List Value} (hg : gOK L gd) (hd : Nat.blt d nt = true) (hf : ev L f = some (.func (.func g) va.toArray vb.toArray)) (hx : evs L xs = some vs) {R : Value → Heap → Prop} (hc : FS C g (va ++ vs ++ vb) H R)
    (k : ∀ v H', R v H' → stands H' lo rs = true ∧ WD C nt l rs ((d, v) :: L) D H' K) : WD C nt (⟨i, some d, .callV f xs, gd, lo⟩ :: l) rs L D H K := by
  obtain ⟨v, H1, ⟨m1, h1⟩, h2⟩ := hc
  intro t ht
  obtain ⟨ks, kk⟩ := k v H1 h2
  obtain ⟨m2, s', h3, h4⟩ := kk _ (ht.put d v)
  refine ⟨max m1 m2, s', ?_, h4⟩
  have hv : opA C.c.P (.callV f xs) (evalO t) H = .call g (va ++ vs ++ vb) := by simp only [opA, ev_ok ht hf, evs_ok ht hx, callVA]
  have hn : ∀ s s', noteRd ⟨i, some d, .callV f xs, gd, lo⟩ s s' rs = rs := by
    intro s s'; simp only [noteRd]; cases wantedA s.t ⟨i, some d, .callV f xs, gd, lo⟩ <;> rfl
  simp only [stepOpsD, doOp, hg.wanted ht, cond_true, hv, ans, run_mono (Nat.le_max_left m1 m2) _ _ h1, afterOp, putT, hd, stOf, ks, hn]
  exact stepOpsD_mono' (run_mono (Nat.le_max_right m1 m2)) h3
end
end Go.Abs
namespace Go.Proofs.Ytaipmdhnhffckaa.Sh
open Go Go.Abs Go.Mth
set_option linter.unusedVariables false
set_option linter.unusedSimpArgs false
/-- Pairs that are still to come. -/
def restRow (p : Nat → Nat → Bool) (n a b : Nat) : List (Nat × Nat) := (((List.range n).drop b).filter (p a)).map fun b => (a, b)
def restP (p : Nat → Nat → Bool) (n a : Nat) : List (Nat × Nat) := ((List.range n).drop a).flatMap (rowL p n)
theorem restP_end (p : Nat → Nat → Bool) (n : Nat) : restP p n n = [] := by unfold restP; rw [List.drop_eq_nil_of_le (by simp)]; rfl
theorem restP_succ {p : Nat → Nat → Bool} {n a : Nat} (h : a < n) : restP p n a = restRow p n a 0 ++ restP p n (a + 1) := by
  unfold restP
  rw [List.drop_eq_getElem_cons (by simpa using h), List.getElem_range, List.flatMap_cons]; rfl
theorem restRow_end (p : Nat → Nat → Bool) (n a : Nat) : restRow p n a n = [] := by unfold restRow; rw [List.drop_eq_nil_of_le (by simp)]; rfl
theorem restRow_yes {p : Nat → Nat → Bool} {n a b : Nat} (h : b < n) (hp : p a b = true) : restRow p n a b = (a, b) :: restRow p n a (b + 1) := by
  unfold restRow
  rw [List.drop_eq_getElem_cons (by simpa using h), List.getElem_range, List.filter_cons_of_pos (by exact hp), List.map_cons]
theorem restRow_no {p : Nat → Nat → Bool} {n a b : Nat} (h : b < n) (hp : p a b = false) : restRow p n a b = restRow p n a (b + 1) := by
  unfold restRow
  rw [List.drop_eq_getElem_cons (by simpa using h), List.getElem_range, List.filter_cons_of_neg (by rw [hp]; decide)]
/-- A question about a finder with a share. -/
def QuestR (g : FuncId) (p : List Nat → Nat → Nat → Bool) : Prop := ∀ {X : HL} {n : Nat} {H : Heap} {f : List Nat} {v : Value} {own m : Nat}, hasH X n H → Sl X 1 v (nodes f) → f.length = m → m ≤ 6 → (∀ x ∈ f, x ≤ 20) → own < 2 ^ m →
  FS C g [v, .int .u64 (own : Int)] H (fun e H' => ∃ g' vb' F n', e = .func (.func g') [].toArray (List.toArray vb') ∧ n ≤ n' ∧ hasH (F ++ X) n' H' ∧ AskQ (F ++ X) g' [] vb' (fun s => .bool (p f own s)) (fun s => s < 2 ^ m))
theorem quest_env : QuestR 77 envB := fun {X n H f v own m} hH hS hl hm hb ho => by
  refine (envies_fs hH hS (by omega) hb (lt_pow ho (by omega))).mono fun e H' ⟨h1, h2⟩ => ?_
  refine ⟨108, [.pointer (some ⟨n, 0, some 0⟩), .pointer (some ⟨n + 1, 0, some 0⟩)], [(n + 1, .row 3 0 0 [.int .i64 (wor f own : Nat)]), (n, .row 83 0 0 [v])], n + 2, h1, by omega, h2, ?_⟩
  intro Y n' H2 s hX hH2 hs
  exact (envies1_fs hH2 (hS.mono fun q hq => hX q (List.mem_append_right _ hq)) (by omega) hb (lt_pow hs (by omega)) (hX _ (.tail _ (.head _))) (hX _ (.head _))).mono fun e H3 ⟨h1, h2⟩ => ⟨h1, n', Nat.le_refl _, by rw [h2]; exact hH2⟩
theorem quest_more : QuestR 81 muchB := fun {X n H f v own m} hH hS hl hm hb ho => by
  refine (more_fs hH hS (by omega) hb (lt_pow ho (by omega))).mono fun e H' ⟨h1, h2⟩ => ?_
  refine ⟨109, [.pointer (some ⟨n + 2, 0, some 0⟩)], [(n + 2, .row 121 0 0 [.func (.func 108) [].toArray [.pointer (some ⟨n, 0, some 0⟩), .pointer (some ⟨n + 1, 0, some 0⟩)].toArray]), (n + 1, .row 3 0 0 [.int .i64 (wor f own : Nat)]), (n, .row 83 0 0 [v])], n + 3, h1, by omega, h2, ?_⟩
  intro Y n' H2 s hX hH2 hs
  exact more1_fs hH2 (hS.mono fun q hq => hX q (List.mem_append_right _ hq)) hl hm hb hs (hX _ (.tail _ (.tail _ (.head _)))) (hX _ (.tail _ (.head _))) (hX _ (.head _))
/-- A division in memory. -/
structure DivM (M : HL) (vv sv : Value) (vs : List (List Nat)) (ss : List Nat) (n m : Nat) : Prop where
  ok : OKV vs n m
  vals : ValsN M vv vs
  shar : Sl M 1 sv (u64s ss)
  len : ss.length = n
  bd : ∀ s ∈ ss, s < 2 ^ m
theorem DivM.mono {M M' : HL} {vv sv : Value} {vs : List (List Nat)} {ss : List Nat} {n m : Nat} (h : DivM M vv sv vs ss n m) (k : ∀ p ∈ M, p ∈ M') : DivM M' vv sv vs ss n m := ⟨h.ok, h.vals.mono k, h.shar.mono k, h.len, h.bd⟩
def quP (p : List Nat → Nat → Nat → Bool) (vs : List (List Nat)) (ss : List Nat) (a b : Nat) : Bool := p (vs.getD a []) (ss.getD a 0) (ss.getD b 0)
structure PA where
  a : Nat
  M : HL
  n : Nat
attribute [local irreducible] gOK WS WC WR WD Ends FS YS OpV seqK blockK loopK midK retK rdK asgK rangeEnd sat Cell
section
variable {M B : HL} {n0 : Nat} {H : Heap} {vv sv : Value} {vs : List (List Nat)} {ss : List Nat} {n m : Nat}
/-- All pairs of which a question is answered by yes are handed over, one after another, as long as more are asked for. -/
theorem pairs1_fs {lY bd bq e eq : Nat} {g : FuncId} {p : List Nat → Nat → Nat → Bool} {J : List (Nat × Nat) → HL → Nat → Prop} {S : HL → Nat → Prop}
    (hq : QuestR g p) (hD : DivM B vv sv vs ss n m) (hmd : (bd, Ch.row e 0 0 [vv, sv]) ∈ B) (hmq : (bq, Ch.row eq 0 0 [.func (.func g) [].toArray [].toArray]) ∈ B)
    (hB : ∀ zs M' n', J zs M' n' → ∀ q ∈ B, q ∈ M') (hJn : ∀ zs M' n' n'', J zs M' n' → n' ≤ n'' → J zs M' n'')
    (hy : ∀ z zs F M' n' H', J (z :: zs) M' n' → z ∈ pairsL (quP p vs ss) n → hasH (F ++ M') n' H' → YS C lY [.agg [.int .i64 (z.1 : Nat), .int .i64 (z.2 : Nat)].toArray] H' (fun v H2 => ∃ M2 n2, n' ≤ n2 ∧ hasH (F ++ M2) n2 H2 ∧ ((v = .bool true ∧ J zs M2 n2) ∨ (v = .bool false ∧ S M2 n2))))
    (hH : hasH M n0 H) (hJ : J (pairsL (quP p vs ss) n) M n0) :
    FS C 106 [.func (.yield lY) [].toArray [].toArray, .pointer (some ⟨bd, 0, some 0⟩), .pointer (some ⟨bq, 0, some 0⟩)] H (fun _ H' => ∃ M' n', n0 ≤ n' ∧ hasH M' n' H' ∧ (J [] M' n' ∨ S M' n')) := by
  have hmd0 := hB _ _ _ hJ _ hmd
  have hsh0 := hD.shar.mono (hB _ _ _ hJ)
  have hsl := hD.len
  have hn4 := hD.ok.n4
  have hm6 := hD.ok.m6
  obtain ⟨ws, hW, hwl, hws⟩ := hD.vals.ex
  have hvl := hD.ok.len
  refine FS.intro (pf := pf106) rfl rfl rfl ?_
  repeat' (first | refine zP ?_ | refine zA ?_ | (refine zM ?_; intro _ _) | refine zX ?_ | (refine zC ?_; intro _ _ _ _) | (refine zS ?_; intro _ _) | (apply Ws <;> intro hg))
  clear hsh0
  refine WC.loopX [(0, _), (1, _), (2, _), (9, _), (10, _)] (fun s : PA => [(11, .int .i64 (s.a : Int))]) []
    (fun s H' => s.a ≤ n ∧ n0 ≤ s.n ∧ J (restP (quP p vs ss) n s.a) s.M s.n ∧ hasH s.M s.n H') (fun s => n - s.a) ⟨0, M, n0⟩ (by repeat' (first | exact .nil | refine .cons rfl ?_)) rfl
    ⟨Nat.zero_le _, Nat.le_refl _, hJ, hH⟩ ?_
  clear hH hJ hmd0
  rintro ⟨a, M1, n1⟩ H1 ⟨ha, hn1, hJ1, hH1⟩
  simp only at ha hn1 hJ1 hH1
  have hsh1 := hD.shar.mono (hB _ _ _ hJ1)
  have hmd1 := hB _ _ _ hJ1 _ hmd
  have hmq1 := hB _ _ _ hJ1 _ hmq
  have hW1 := hW.mono (hB _ _ _ hJ1)
  dsimp only [List.cons_append, List.nil_append]
  repeat' (first | refine zP ?_ | refine zA ?_ | (refine zM ?_; intro _ _) | refine zX ?_ | (refine zC ?_; intro _ _ _ _) | (refine zS ?_; intro _ _) | (apply Ws <;> intro hg))
  refine WC.condP rfl (fun hlt => ?_) (fun hlt => ?_)
  · have ha' : a < n := by omega
    have hrow := (hws a (by omega)).mono (hB _ _ _ hJ1)
    repeat' (first | refine zP ?_ | refine zA ?_ | (refine zM ?_; intro _ _) | refine zX ?_ | (refine zC ?_; intro _ _ _ _) | (refine zS ?_; intro _ _) | (apply Ws <;> intro hg))
    refine WC.regionD ?_
    repeat' (first | refine zD ?_ | (refine zE ?_; intro _ _ _ _))
    refine WD.callV (va := []) (vb := []) (by first | exact gN | exact gS rfl) rfl rfl rfl (hq hH1 hrow (hD.ok.rowLen ha') hm6 (hD.ok.rowBd ha') (hD.bd _ (getD_mem (a := 0) (by omega)))) ?_
    rintro _ H2 ⟨g', vb', Fq, n2, rfl, hn2, hH2, hask⟩
    have hmd2 := List.mem_append_right Fq hmd1
    refine ⟨stands_cons (.inr (holds_at (hH2.read hmd2 (.row _ _ _ _) (Nat.zero_le _) rfl) hsh1.same)) (stands_cons (.inl rfl) (stands_cons (.inl rfl) (stands_cons (.inl rfl) stands_nil'))), ?_⟩
    have hsh2 := hsh1.mono fun q hq => List.mem_append_right Fq hq
    refine WD.call (by first | exact gN | exact gS rfl) rfl rfl (askB_fs (p := p (vs.getD a []) (ss.getD a 0)) hH2 hsh2 (by omega) (g := g') (va := []) (vb := vb') fun {X n' H' s} hX hH' hs => hask hX hH' (hD.bd _ hs)) ?_
    rintro _ H3 ⟨rfl, n3, hn3, hH3⟩
    refine ⟨stands_cons (.inl rfl) (stands_cons (.inl rfl) (stands_cons (.inl rfl) (stands_cons (.inl rfl) stands_nil'))), ?_⟩
    repeat' (first | refine zD ?_ | (refine zE ?_; intro _ _ _ _))
    refine WD.toWR rfl ?_
    repeat' (first | refine zP ?_ | refine zA ?_ | (refine zM ?_; intro _ _) | refine zX ?_ | (refine zC ?_; intro _ _ _ _) | (refine zS ?_; intro _ _) | (apply Ws <;> intro hg))
    rw [restP_succ ha'] at hJ1
    have hback : ∀ {M' : HL} {n' : Nat} {H' : Heap}, hasH ((n2, Ch.row 4 0 0 (bools (ss.map (p (vs.getD a []) (ss.getD a 0))))) :: (Fq ++ M')) n' H' → hasH M' n' H' := fun h => h.sub ((List.sublist_append_right _ _).trans (List.sublist_cons_self _ _))
    refine WC.loopX [(0, _), (1, _), (2, _), (4, _), (9, _), (10, _), (11, _), (26, _), (27, _)] (fun s : PA => [(28, .int .i64 (s.a : Int))]) []
      (fun s H' => s.a ≤ n ∧ n0 ≤ s.n ∧ J (restRow (quP p vs ss) n a s.a ++ restP (quP p vs ss) n (a + 1)) s.M s.n ∧ hasH ((n2, Ch.row 4 0 0 (bools (ss.map (p (vs.getD a []) (ss.getD a 0))))) :: (Fq ++ s.M)) s.n H') (fun s => n - s.a) ⟨0, M1, n3⟩ (by repeat' (first | exact .nil | refine .cons rfl ?_)) rfl
      ⟨Nat.zero_le _, by simp only; omega, hJn _ _ _ _ hJ1 (by simp only; omega), hH3⟩ ?_
    clear hH1 hH2 hH3 hJ1 hsh1 hsh2 hmd1 hmd2 hmq1 hW1 hrow hask
    rintro ⟨b, M4, n4⟩ H4 ⟨hb, hn4', hJ4, hH4⟩
    simp only at hb hn4' hJ4 hH4
    have hbl : (ss.map (p (vs.getD a []) (ss.getD a 0))).length = n := by rw [List.length_map]; exact hsl
    dsimp only [List.cons_append, List.nil_append]
    repeat' (first | refine zP ?_ | refine zA ?_ | (refine zM ?_; intro _ _) | refine zX ?_ | (refine zC ?_; intro _ _ _ _) | (refine zS ?_; intro _ _) | (apply Ws <;> intro hg))
    refine WC.condP rfl (fun hlt2 => ?_) (fun hlt2 => ?_)
    · have hb' : b < n := by omega
      have hval : (ss.map (p (vs.getD a []) (ss.getD a 0))).getD b false = quP p vs ss a b := map_getD (by omega)
      repeat' (first | refine zP ?_ | refine zA ?_ | (refine zM ?_; intro _ _) | refine zX ?_ | (refine zC ?_; intro _ _ _ _) | (refine zS ?_; intro _ _) | (apply Ws <;> intro hg))
      rw [hval]
      cases hp : quP p vs ss a b with
      | true =>
        rw [restRow_yes hb' hp, List.cons_append] at hJ4
        repeat' (first | refine zP ?_ | refine zA ?_ | (refine zM ?_; intro _ _) | refine zX ?_ | (refine zC ?_; intro _ _ _ _) | (refine zS ?_; intro _ _) | (apply Ws <;> intro hg))
        refine WR.op (by first | exact gN | exact gS rfl) rfl (OpV.bldA (cs := [Value.int .i64 (a : Int), .int .i64 (b : Int)].toArray) rfl rfl) ?_
        refine WR.yield (by first | exact gN | exact gS rfl) rfl rfl rfl (hy (a, b) _ ((n2, Ch.row 4 0 0 (bools (ss.map (p (vs.getD a []) (ss.getD a 0))))) :: Fq) M4 n4 _ hJ4 (pairs_mem.2 ⟨ha', hb', hp⟩) hH4) ?_
        clear hH4
        rintro _ H5 ⟨M5, n5, hn5, hH5, ⟨rfl, hJ5⟩ | ⟨rfl, hS5⟩⟩
        · repeat' (first | refine zP ?_ | refine zA ?_ | (refine zM ?_; intro _ _) | refine zX ?_ | (refine zC ?_; intro _ _ _ _) | (refine zS ?_; intro _ _) | (apply Ws <;> intro hg))
          rw [show (b : Int) + 1 = ((b + 1 : Nat) : Int) by omega]
          exact Ends.loop ⟨b + 1, M5, n5⟩ (by simp only; omega) (by repeat' (first | exact .nil | refine .cons rfl ?_)) rfl ⟨hb', by simp only; omega, hJ5, hH5⟩
        · repeat' (first | refine zP ?_ | refine zA ?_ | (refine zM ?_; intro _ _) | refine zX ?_ | (refine zC ?_; intro _ _ _ _) | (refine zS ?_; intro _ _) | (apply Ws <;> intro hg))
          exact Ends.ret0 ⟨M5, n5, by omega, hback hH5, .inr hS5⟩
      | false =>
        rw [restRow_no hb' hp] at hJ4
        repeat' (first | refine zP ?_ | refine zA ?_ | (refine zM ?_; intro _ _) | refine zX ?_ | (refine zC ?_; intro _ _ _ _) | (refine zS ?_; intro _ _) | (apply Ws <;> intro hg))
        rw [show (b : Int) + 1 = ((b + 1 : Nat) : Int) by omega]
        exact Ends.loop ⟨b + 1, M4, n4⟩ (by simp only; omega) (by repeat' (first | exact .nil | refine .cons rfl ?_)) rfl ⟨hb', hn4', hJ4, hH4⟩
    · have hbn : b = n := by omega
      rw [hbn, restRow_end, List.nil_append] at hJ4
      repeat' (first | refine zP ?_ | refine zA ?_ | (refine zM ?_; intro _ _) | refine zX ?_ | (refine zC ?_; intro _ _ _ _) | (refine zS ?_; intro _ _) | (apply Ws <;> intro hg))
      rw [show (a : Int) + 1 = ((a + 1 : Nat) : Int) by omega]
      exact Ends.loop ⟨a + 1, M4, n4⟩ (by simp only; omega) (by repeat' (first | exact .nil | refine .cons rfl ?_)) rfl ⟨ha', hn4', hJ4, hback hH4⟩
  · have han : a = n := by omega
    rw [han, restP_end] at hJ1
    repeat' (first | refine zP ?_ | refine zA ?_ | (refine zM ?_; intro _ _) | refine zX ?_ | (refine zC ?_; intro _ _ _ _) | (refine zS ?_; intro _ _) | (apply Ws <;> intro hg))
    exact Ends.end0 ⟨M1, n1, hn1, hH1, .inl hJ1⟩
theorem pairs_fs (hH : hasH M n0 H) (hv : one vv = true) (hs : one sv = true) (g : FuncId) :
    FS C 76 [.agg [vv, sv].toArray, .func (.func g) [].toArray [].toArray] H (fun e H' => e = .func (.func 106) [].toArray [.pointer (some ⟨n0, 0, some 0⟩), .pointer (some ⟨n0 + 1, 0, some 0⟩)].toArray ∧
      hasH ((n0 + 1, .row 90 0 0 [.func (.func g) [].toArray [].toArray]) :: (n0, .row 78 0 0 [vv, sv]) :: M) (n0 + 2) H') := by
  refine FS.intro (pf := pf76) rfl rfl rfl ?_
  repeat' (first | refine zP ?_ | refine zA ?_ | (refine zM ?_; intro _ _) | refine zX ?_ | (refine zC ?_; intro _ _ _ _) | (refine zS ?_; intro _ _) | (apply Ws <;> intro hg))
  rename_i H1 hH1 H2 hH2
  exact Ends.ret1 rfl ⟨rfl, hH2⟩
end
end Go.Proofs.Ytaipmdhnhffckaa.Sh

namespace Go.Abs
set_option linter.unusedSectionVars false
variable [Globs]
open Go
section
variable {L : Env} {D : List Nat} {H : Heap} {M M' : HL} {n : Nat}
theorem retCN2D {a b k : Nat} {p r : Addr} {v : List Value} {w : Value} {R : Value → Heap → Prop} {M0 : HL} {e : Ex} (he : (match e with | .normal => True | .ret => True | _ => False)) (hx : ev L (.tmp a) = some (.pointer (some p))) (hy : ev L (.tmp b) = some (.pointer (some r))) (hH : hasH M n H) (hM : M'.Sublist M)
    (hp : M'.Perm (D.map (fun b => (b, Ch.defd false)) ++ M0)) (k2 : ∀ H', hasH M0 n H' → H'.readN p k = some v ∧ H'.read r = some w ∧ R (.tuple #[.agg v.toArray, w]) H') : Abs.Ends (retK [.cell a (some k), .cell b none] R) e L D H :=
  Abs.Ends.retD he hH hM hp fun H' h' t ht => by
    obtain ⟨h1, h2, h3⟩ := k2 H' h'
    exact ⟨_, H', by simp only [leaveC, resultOf, ev_ok ht hx, ev_ok ht hy, h1, h2, retVal], h3⟩
theorem retC1D {a : Nat} {p : Addr} {v : Value} {R : Value → Heap → Prop} {M0 : HL} {e : Ex} (he : (match e with | .normal => True | .ret => True | _ => False)) (hx : ev L (.tmp a) = some (.pointer (some p))) (hH : hasH M n H) (hM : M'.Sublist M)
    (hp : M'.Perm (D.map (fun b => (b, Ch.defd false)) ++ M0)) (k2 : ∀ H', hasH M0 n H' → H'.read p = some v ∧ R v H') : Abs.Ends (retK [.cell a none] R) e L D H :=
  Abs.Ends.retD he hH hM hp fun H' h' t ht => by
    obtain ⟨h1, h3⟩ := k2 H' h'
    exact ⟨_, H', by simp only [leaveC, resultOf, ev_ok ht hx, h1, retVal], h3⟩
end
end Go.Abs
namespace Go.Proofs.Ytaipmdhnhffckaa.Sh
open Go Go.Abs Go.Mth
set_option linter.unusedVariables false
set_option linter.unusedSimpArgs false
theorem yes_cell (l : List (Nat × Nat)) : l = [] ∨ ∃ z zs, l = z :: zs := by cases l with | nil => exact .inl rfl | cons z zs => exact .inr ⟨z, zs, rfl⟩
attribute [local irreducible] gOK WS WC WR WD Ends FS YS OpV seqK blockK loopK midK retK rdK asgK rangeEnd sat Cell
section
variable {M : HL} {n0 : Nat} {H : Heap} {vv sv : Value} {vs : List (List Nat)} {ss : List Nat} {n m : Nat}
set_option maxHeartbeats 2000000 in
/-- The first pair, and whether there is one. -/
theorem first_fs {g : FuncId} {p : List Nat → Nat → Nat → Bool} (hq : QuestR g p) (hD : DivM M vv sv vs ss n m) (hH : hasH M n0 H) :
    FS C 80 [.agg [vv, sv].toArray, .func (.func g) [].toArray [].toArray] H (fun e H' => e = .tuple #[.agg [.int .i64 (((pairsL (quP p vs ss) n).headD (0, 0)).1 : Nat), .int .i64 (((pairsL (quP p vs ss) n).headD (0, 0)).2 : Nat)].toArray, .bool (!(pairsL (quP p vs ss) n).isEmpty)] ∧ ∃ n', n0 ≤ n' ∧ hasH M n' H') := by
  have hv1 := hD.vals.one_
  have hs1 := hD.shar.one_
  have hone : [vv, sv].all one = true := by simp [hv1, hs1]
  refine FS.intro (pf := pf80) rfl rfl rfl ?_
  repeat' (first | refine zP ?_ | refine zA ?_ | (refine zM ?_; intro _ _) | refine zX ?_ | (refine zC ?_; intro _ _ _ _) | (refine zS ?_; intro _ _) | (apply Ws <;> intro hg))
  rename_i H1 hH1 H2 hH2 H3 hH3
  clear hH1 hH2
  refine WR.call (by first | exact gN | exact gS rfl) rfl rfl (pairs_fs hH3 hv1 hs1 g) ?_
  rintro _ H4 ⟨rfl, hH4⟩
  clear hH3
  repeat' (first | refine zP ?_ | refine zA ?_ | (refine zM ?_; intro _ _) | refine zX ?_ | (refine zC ?_; intro _ _ _ _) | (refine zS ?_; intro _ _) | (apply Ws <;> intro hg))
  refine WC.range0 (va := []) (vb := [.pointer (some ⟨n0 + 1 + 1 + 1, 0, some 0⟩), .pointer (some ⟨n0 + 1 + 1 + 1 + 1, 0, some 0⟩)]) rfl hH4 fun t ht H5 hH5 => ?_
  clear hH4
  generalize hR : ({ state := .ready, pending := none, fn := 80, tmps := t, params := [10], assign := _, body := _, nt := _ } : LoopE) = R at hH5
  generalize hP : pairsL (quP p vs ss) n = P
  refine FS.mono (pairs1_fs (lY := n0 + 1 + 1 + 1 + 2 + 1) (bd := n0 + 1 + 1 + 1) (bq := n0 + 1 + 1 + 1 + 1) (e := 78) (eq := 90) (g := g) (p := p) (vv := vv) (sv := sv) (vs := vs) (ss := ss) (n := n) (m := m) (n0 := n0 + 1 + 1 + 1 + 2 + 2)
    (B := (n0 + 1 + 1 + 1 + 1, .row 90 0 0 [.func (.func g) [].toArray [].toArray]) :: (n0 + 1 + 1 + 1, .row 78 0 0 [vv, sv]) :: M)
    (M := (n0 + 1 + 1 + 1 + 2 + 1, .loop R) :: (n0 + 1 + 1 + 1 + 2, .defd false) :: (n0 + 1 + 1 + 1 + 1, .row 90 0 0 [.func (.func g) [].toArray [].toArray]) :: (n0 + 1 + 1 + 1, .row 78 0 0 [vv, sv]) :: (n0 + 1 + 1, .row 4 0 0 [.bool false]) :: (n0 + 1, .row 58 0 0 [.int .i64 0, .int .i64 0]) :: (n0, .row 78 0 0 [vv, sv]) :: M)
    (J := fun zs M' n' => n0 ≤ n' ∧ zs = P ∧ M' = (n0 + 1 + 1 + 1 + 2 + 1, .loop R) :: (n0 + 1 + 1 + 1 + 2, .defd false) :: (n0 + 1 + 1 + 1 + 1, .row 90 0 0 [.func (.func g) [].toArray [].toArray]) :: (n0 + 1 + 1 + 1, .row 78 0 0 [vv, sv]) :: (n0 + 1 + 1, .row 4 0 0 [.bool false]) :: (n0 + 1, .row 58 0 0 [.int .i64 0, .int .i64 0]) :: (n0, .row 78 0 0 [vv, sv]) :: M)
    (S := fun M' n' => ∃ z zs, P = z :: zs ∧ n0 ≤ n' ∧ M' = (n0 + 1 + 1 + 1 + 2 + 1, .loop { R with state := .done, pending := some .ret }) :: (n0 + 1 + 1 + 1 + 2, .defd false) :: (n0 + 1 + 1, .row 4 0 0 [.bool true]) :: (n0 + 1, .row 58 0 0 [.int .i64 (z.1 : Nat), .int .i64 (z.2 : Nat)]) :: M)
    hq (hD.mono fun q hq => .tail _ (.tail _ hq)) (by simp) (by simp) ?_ (fun zs M' n' n'' h1 h2 => ⟨by omega, h1.2.1, h1.2.2⟩) ?_ hH5 ⟨by omega, hP, rfl⟩) ?_
  · rintro zs M' n' ⟨_, _, rfl⟩ q hq
    rcases List.mem_cons.1 hq with rfl | hq
    · simp
    · rcases List.mem_cons.1 hq with rfl | hq
      · simp
      · simp [hq]
  · rintro z zs F _ n' H6 ⟨hn', hzs, rfl⟩ _ hH6
    replace hH6 := hasH.pull (Mx := [_, _, _, _, _, _, _]) hH6
    simp only [List.cons_append, List.nil_append] at hH6
    refine YS.intro hH6 (.head _) (by rw [← hR]) (by rw [← hR]) (by rw [← hR]; rfl) (by rw [← hR]; exact ht) ?_
    subst hR
    dsimp only
    repeat' (first | refine zA ?_ | (refine zM ?_; intro _ _) | (apply Ws <;> intro hg))
    rename_i H7 hH7
    refine WR.store2 (by first | exact gN | exact gS rfl) hH7 rfl rfl rfl rfl .here fun H8 hH8 => ?_
    clear hH6 hH7
    repeat' (first | refine zA ?_ | (refine zM ?_; intro _ _) | (apply Ws <;> intro hg))
    refine Ends.asg hH8 (.there .here) fun H9 hH9 => ?_
    dsimp only
    clear hH8
    repeat' (first | refine zP ?_ | refine zA ?_ | (refine zM ?_; intro _ _) | refine zX ?_ | (refine zC ?_; intro _ _ _ _) | (refine zS ?_; intro _ _) | (apply Ws <;> intro hg))
    refine WR.store2 (by first | exact gN | exact gS rfl) hH9 rfl rfl rfl rfl (.there (.there (.there (.there (.there (.there .here)))))) fun H10 hH10 => ?_
    clear hH9
    refine WR.storeBox (by first | exact gN | exact gS rfl) hH10 rfl rfl rfl (.there (.there (.there (.there (.there .here))))) fun H11 hH11 => ?_
    clear hH10
    repeat' (first | refine zP ?_ | refine zA ?_ | (refine zM ?_; intro _ _) | refine zX ?_ | (refine zC ?_; intro _ _ _ _) | (refine zS ?_; intro _ _) | (apply Ws <;> intro hg))
    refine Ends.rd rfl rfl rfl hH11 (.there .here) fun H' h' => ⟨_ :: _ :: _ :: _ :: M, n' + 1, by omega, hasH.push (Mx := [_, _, _, _]) (h'.sub (.cons _ (.cons_cons _ (.cons_cons _ (.cons _ (.cons _ (.cons_cons _ (.cons_cons _ (.cons _ (List.Sublist.refl _)))))))))), .inr ⟨rfl, z, zs, hzs.symm, by omega, rfl⟩⟩
  · rintro _ H7 ⟨M7, n7, hn7, hH7, ⟨_, hzs, rfl⟩ | ⟨z, zs, hzs, _, rfl⟩⟩
    · refine rangeEnd_of hH7 .here (by rw [← hR]; simp) (by rw [← hR]; rfl) fun H8 hH8 => ?_
      subst hzs
      repeat' (first | refine zP ?_ | refine zA ?_ | (refine zM ?_; intro _ _) | refine zX ?_ | (refine zC ?_; intro _ _ _ _) | (refine zS ?_; intro _ _) | (apply Ws <;> intro hg))
      refine WR.op (by first | exact gN | exact gS rfl) rfl (OpV.bldA (cs := [Value.int .i64 0, .int .i64 0].toArray) rfl rfl) ?_
      refine WR.store2 (by first | exact gN | exact gS rfl) hH8 rfl rfl rfl rfl (.there (.there (.there (.there (.there .here))))) fun H9 hH9 => ?_
      refine WR.storeBox (by first | exact gN | exact gS rfl) hH9 rfl rfl rfl (.there (.there (.there (.there .here)))) fun H10 hH10 => ?_
      repeat' (first | refine zP ?_ | refine zA ?_ | (refine zM ?_; intro _ _) | refine zX ?_ | (refine zC ?_; intro _ _ _ _) | (refine zS ?_; intro _ _) | (apply Ws <;> intro hg))
      exact retCN2D (v := [.int .i64 0, .int .i64 0]) (w := .bool false) trivial rfl rfl hH10 (.cons _ (List.Sublist.refl _)) (List.Perm.refl _) fun H' h' => ⟨read2 h' (.tail _ (.tail _ (.tail _ (.head _)))), h'.read (.tail _ (.tail _ (.head _))) (.row _ _ _ _) (Nat.zero_le _) rfl, rfl, n7, by omega, h'.sub (.cons _ (.cons _ (.cons _ (.cons _ (.cons _ (List.Sublist.refl _))))))⟩
    · refine rangeEnd_of hH7 .here (by simp) rfl fun H8 hH8 => ?_
      subst hzs
      repeat' (first | refine zP ?_ | refine zA ?_ | (refine zM ?_; intro _ _) | refine zX ?_ | (refine zC ?_; intro _ _ _ _) | (refine zS ?_; intro _ _) | (apply Ws <;> intro hg))
      exact retCN2D (v := [.int .i64 (z.1 : Nat), .int .i64 (z.2 : Nat)]) (w := .bool true) trivial rfl rfl hH8 (.cons _ (List.Sublist.refl _)) (List.Perm.refl _) fun H' h' => ⟨read2 h' (.tail _ (.head _)), h'.read (.head _) (.row _ _ _ _) (Nat.zero_le _) rfl, rfl, n7, by omega, h'.sub (.cons _ (.cons _ (List.Sublist.refl _)))⟩
theorem isFair_fs (hD : DivM M vv sv vs ss n m) (hH : hasH M n0 H) :
    FS C 79 [.agg [vv, sv].toArray] H (fun e H' => e = .bool ((pairsL (envP vs ss) n).isEmpty) ∧ ∃ n', n0 ≤ n' ∧ hasH M n' H') := by
  have hv1 := hD.vals.one_
  have hs1 := hD.shar.one_
  have hone : [vv, sv].all one = true := by simp [hv1, hs1]
  refine FS.intro (pf := pf79) rfl rfl rfl ?_
  repeat' (first | refine zP ?_ | refine zA ?_ | (refine zM ?_; intro _ _) | refine zX ?_ | (refine zC ?_; intro _ _ _ _) | (refine zS ?_; intro _ _) | (apply Ws <;> intro hg))
  rename_i H1 hH1
  refine WR.call (by first | exact gN | exact gS rfl) rfl rfl (first_fs quest_env (hD.mono fun q hq => .tail _ hq) hH1) ?_
  rintro _ H2 ⟨rfl, n2, hn2, hH2⟩
  repeat' (first | refine zP ?_ | refine zA ?_ | (refine zM ?_; intro _ _) | refine zX ?_ | (refine zC ?_; intro _ _ _ _) | (refine zS ?_; intro _ _) | (apply Ws <;> intro hg))
  rename_i H3 hH3
  refine WR.store2 (by first | exact gN | exact gS rfl) hH3 rfl rfl rfl rfl .here fun H4 hH4 => ?_
  repeat' (first | refine zP ?_ | refine zA ?_ | (refine zM ?_; intro _ _) | refine zX ?_ | (refine zC ?_; intro _ _ _ _) | (refine zS ?_; intro _ _) | (apply Ws <;> intro hg))
  refine Ends.ret1 rfl ⟨?_, n2 + 1, by omega, hH4.tail.tail⟩
  congr 1
  rw [Bool.not_not]; rfl
end
end Go.Proofs.Ytaipmdhnhffckaa.Sh

namespace Go.Proofs.Ytaipmdhnhffckaa.Sh
open Go Go.Abs Go.Mth
set_option linter.unusedVariables false
set_option linter.unusedSimpArgs false
def natV (fs : List (List Int)) : List (List Nat) := fs.map fun l => l.map Int.toNat
theorem cast_toNat (l : List Nat) : (IL l).map Int.toNat = l := by
  rw [IL, List.map_map]
  have : l.map (Int.toNat ∘ fun (x : Nat) => (x : Int)) = l.map id := List.map_congr_left fun x _ => by simp
  rw [this, List.map_id]
theorem natV_ILL (vs : List (List Nat)) : natV (ILL vs) = vs := by
  rw [natV, ILL, List.map_map]
  have : vs.map ((fun l : List Int => l.map Int.toNat) ∘ fun l : List Nat => l.map fun (x : Nat) => (x : Int)) = vs.map id := List.map_congr_left fun l _ => cast_toNat l
  rw [this, List.map_id]
/-- What Fair and Why come to. -/
def fairC (fs : List (List Int)) (o : List Int) : Nat := if divE fs o = 0 then fairN (natV fs) (shs fs.length o) else 0
def whyL (fs : List (List Int)) (o : List Int) : List (Nat × Nat) := if divE fs o = 0 then pairsL (muchP (natV fs) (shs fs.length o)) fs.length else []
def whyC (fs : List (List Int)) (o : List Int) : Int := if divE fs o = 0 then (if (whyL fs o).isEmpty = true then 13 else 0) else divE fs o
theorem shs_bd {n m : Nat} {o : List Int} (h : o.length = m) : ∀ s ∈ shs n o, s < 2 ^ m := shs_lt (by omega)
attribute [local irreducible] gOK WS WC WR WD Ends FS YS OpV seqK blockK loopK midK retK rdK asgK rangeEnd sat Cell
section
variable {M : HL} {n0 : Nat} {H : Heap} {v w : Value}
theorem divM_of {fs : List (List Int)} {o : List Int} {b : Nat} (hR : RowsI M v fs) (h : divE fs o = 0) : ∃ vs n m, fs = ILL vs ∧ natV fs = vs ∧ fs.length = n ∧ vs.length = n ∧ OKD o n m ∧ DivM ((b, .row 116 0 0 (u64s (shs n o))) :: M) v (.slice (some ⟨b, 0, some 0⟩) n (2 * n + 1)) vs (shs n o) n m := by
  obtain ⟨vs, n, m, rfl, hV⟩ := vals_ok (div_vals h)
  have ho := div_ok hV h
  exact ⟨vs, n, m, rfl, natV_ILL vs, by simp [hV.len], hV.len, ho, ⟨hV, (RowsI.vals hR).cons, Sl.mkd (by simp [shs]), shs_len _ _, shs_bd ho.len⟩⟩
set_option maxHeartbeats 1000000 in
theorem Fair_fs (hH : hasH M n0 H) {fs : List (List Int)} (hR : RowsI M v fs) (hl : fs.length ≤ 1000) (hll : ∀ l ∈ fs, l.length ≤ 1000) {o : List Int} (hO : Sl M 1 w (ints o)) (hol : o.length ≤ 1000) :
    FS C 23 [v, w] H (fun e H' => e = .tuple #[.int .i64 (fairC fs o : Nat), .int .i64 (divE fs o)] ∧ ∃ n', n0 ≤ n' ∧ hasH M n' H') := by
  have hv1 := hR.one_
  refine FS.intro (pf := pf23) rfl rfl rfl ?_
  repeat' (first | refine zP ?_ | refine zA ?_ | (refine zM ?_; intro _ _) | refine zX ?_ | (refine zC ?_; intro _ _ _ _) | (refine zS ?_; intro _ _) | (apply Ws <;> intro hg))
  refine WR.call (by first | exact gN | exact gS rfl) rfl rfl (checked_fs hH hR hl hll hO hol) ?_
  rintro _ H1 ⟨n1, hn1, ⟨hd, rfl, hH1⟩ | ⟨hd, b, rfl, hH1⟩⟩
  · have hf : fairC fs o = 0 := by unfold fairC; rw [if_neg hd]
    rw [hf]
    repeat' (first | refine zP ?_ | refine zA ?_ | (refine zM ?_; intro _ _) | refine zX ?_ | (refine zC ?_; intro _ _ _ _) | (refine zS ?_; intro _ _) | (apply Ws <;> intro hg))
    rename_i H2 hH2
    refine WR.store2 (by first | exact gN | exact gS rfl) hH2 rfl rfl rfl rfl .here fun H3 hH3 => ?_
    repeat' (first | refine zP ?_ | refine zA ?_ | (refine zM ?_; intro _ _) | refine zX ?_ | (refine zC ?_; intro _ _ _ _) | (refine zS ?_; intro _ _) | refine zO ?_ | (apply Ws <;> intro hg))
    exact Ends.ret2 rfl rfl ⟨rfl, n1 + 1, by omega, hH3.tail⟩
  · obtain ⟨vs, n, m, rfl, hnv, hfl, hvl, ho, hD⟩ := divM_of (b := b) hR hd
    have hf : fairC (ILL vs) o = fairN vs (shs n o) := by unfold fairC; rw [if_pos hd, hnv, hfl]
    rw [hf, hd]
    rw [hfl] at hH1 ⊢
    repeat' (first | refine zP ?_ | refine zA ?_ | (refine zM ?_; intro _ _) | refine zX ?_ | (refine zC ?_; intro _ _ _ _) | (refine zS ?_; intro _ _) | (apply Ws <;> intro hg))
    rename_i H2 hH2
    refine WR.store2 (by first | exact gN | exact gS rfl) hH2 rfl rfl hv1 rfl .here fun H3 hH3 => ?_
    clear hH1 hH2
    replace hD := hD.mono (M' := (n1, .row 78 0 0 [v, .slice (some ⟨b, 0, some 0⟩) n (2 * n + 1)]) :: (b, .row 116 0 0 (u64s (shs n o))) :: M) fun q hq => .tail _ hq
    have hback : ∀ {n' : Nat} {H' : Heap}, hasH ((n1, .row 78 0 0 [v, .slice (some ⟨b, 0, some 0⟩) n (2 * n + 1)]) :: (b, .row 116 0 0 (u64s (shs n o))) :: M) n' H' → hasH M n' H' := fun h => h.tail.tail
    have hm1 : (n1, Ch.row 78 0 0 [v, .slice (some ⟨b, 0, some 0⟩) n (2 * n + 1)]) ∈ (n1, Ch.row 78 0 0 [v, .slice (some ⟨b, 0, some 0⟩) n (2 * n + 1)]) :: (b, .row 116 0 0 (u64s (shs n o))) :: M := .head _
    generalize (n1, Ch.row 78 0 0 [v, .slice (some ⟨b, 0, some 0⟩) n (2 * n + 1)]) :: (b, .row 116 0 0 (u64s (shs n o))) :: M = T at hH3 hD hback hm1
    repeat' (first | refine zP ?_ | refine zA ?_ | (refine zM ?_; intro _ _) | refine zX ?_ | (refine zC ?_; intro _ _ _ _) | (refine zS ?_; intro _ _) | (apply Ws <;> intro hg))
    refine WR.call (by first | exact gN | exact gS rfl) rfl rfl (isFair_fs hD hH3) ?_
    rintro _ H4 ⟨rfl, n4, hn4, hH4⟩
    by_cases he : pairsL (envP vs (shs n o)) n = []
    · have : fairN vs (shs n o) = 2 := by unfold fairN; rw [hvl, if_pos he]
      rw [he, this]
      repeat' (first | refine zP ?_ | refine zA ?_ | (refine zM ?_; intro _ _) | refine zX ?_ | (refine zC ?_; intro _ _ _ _) | (refine zS ?_; intro _ _) | refine zO ?_ | (apply Ws <;> intro hg))
      exact Ends.ret2 rfl rfl ⟨rfl, n4, by omega, hback hH4⟩
    · rw [List.isEmpty_eq_false_iff.2 he]
      repeat' (first | refine zP ?_ | refine zA ?_ | (refine zM ?_; intro _ _) | refine zX ?_ | (refine zC ?_; intro _ _ _ _) | (refine zS ?_; intro _ _) | refine zO ?_ | (apply Ws <;> intro hg))
      refine WR.call (by first | exact gN | exact gS rfl) rfl rfl (first_fs quest_more hD hH4) ?_
      rintro _ H5 ⟨rfl, n5, hn5, hH5⟩
      repeat' (first | refine zP ?_ | refine zA ?_ | (refine zM ?_; intro _ _) | refine zX ?_ | (refine zC ?_; intro _ _ _ _) | (refine zS ?_; intro _ _) | (apply Ws <;> intro hg))
      rename_i H6 hH6
      refine WR.store2 (by first | exact gN | exact gS rfl) hH6 rfl rfl rfl rfl .here fun H7 hH7 => ?_
      by_cases hm : pairsL (quP muchB vs (shs n o)) n = []
      · have : fairN vs (shs n o) = 1 := by unfold fairN; rw [hvl, if_neg he, if_pos (by exact hm)]
        rw [hm, this]
        repeat' (first | refine zP ?_ | refine zA ?_ | (refine zM ?_; intro _ _) | refine zX ?_ | (refine zC ?_; intro _ _ _ _) | (refine zS ?_; intro _ _) | refine zO ?_ | (apply Ws <;> intro hg))
        exact Ends.ret2 rfl rfl ⟨rfl, n5 + 1, by omega, hback hH7.tail⟩
      · have : fairN vs (shs n o) = 0 := by unfold fairN; rw [hvl, if_neg he, if_neg (by exact hm)]
        rw [List.isEmpty_eq_false_iff.2 hm, this]
        repeat' (first | refine zP ?_ | refine zA ?_ | (refine zM ?_; intro _ _) | refine zX ?_ | (refine zC ?_; intro _ _ _ _) | (refine zS ?_; intro _ _) | refine zO ?_ | (apply Ws <;> intro hg))
        exact Ends.ret2 rfl rfl ⟨rfl, n5 + 1, by omega, hback hH7.tail⟩
set_option maxHeartbeats 1000000 in
theorem Why_fs (hH : hasH M n0 H) {fs : List (List Int)} (hR : RowsI M v fs) (hl : fs.length ≤ 1000) (hll : ∀ l ∈ fs, l.length ≤ 1000) {o : List Int} (hO : Sl M 1 w (ints o)) (hol : o.length ≤ 1000) :
    FS C 29 [v, w] H (fun e H' => e = .tuple #[.int .i64 (((whyL fs o).headD (0, 0)).1 : Nat), .int .i64 (((whyL fs o).headD (0, 0)).2 : Nat), .int .i64 (whyC fs o)] ∧ ∃ n', n0 ≤ n' ∧ hasH M n' H') := by
  have hv1 := hR.one_
  refine FS.intro (pf := pf29) rfl rfl rfl ?_
  repeat' (first | refine zP ?_ | refine zA ?_ | (refine zM ?_; intro _ _) | refine zX ?_ | (refine zC ?_; intro _ _ _ _) | (refine zS ?_; intro _ _) | (apply Ws <;> intro hg))
  refine WR.call (by first | exact gN | exact gS rfl) rfl rfl (checked_fs hH hR hl hll hO hol) ?_
  rintro _ H1 ⟨n1, hn1, ⟨hd, rfl, hH1⟩ | ⟨hd, b, rfl, hH1⟩⟩
  · have hf : whyL fs o = [] := by unfold whyL; rw [if_neg hd]
    have hg : whyC fs o = divE fs o := by unfold whyC; rw [if_neg hd]
    rw [hf, hg]
    repeat' (first | refine zP ?_ | refine zA ?_ | (refine zM ?_; intro _ _) | refine zX ?_ | (refine zC ?_; intro _ _ _ _) | (refine zS ?_; intro _ _) | (apply Ws <;> intro hg))
    rename_i H2 hH2
    refine WR.store2 (by first | exact gN | exact gS rfl) hH2 rfl rfl rfl rfl .here fun H3 hH3 => ?_
    repeat' (first | refine zP ?_ | refine zA ?_ | (refine zM ?_; intro _ _) | refine zX ?_ | (refine zC ?_; intro _ _ _ _) | (refine zS ?_; intro _ _) | refine zO ?_ | (apply Ws <;> intro hg))
    exact Ends.ret3 rfl rfl rfl ⟨rfl, n1 + 1, by omega, hH3.tail⟩
  · obtain ⟨vs, n, m, rfl, hnv, hfl, hvl, ho, hD⟩ := divM_of (b := b) hR hd
    have hf : whyL (ILL vs) o = pairsL (quP muchB vs (shs n o)) n := by unfold whyL; rw [if_pos hd, hnv, hfl]; rfl
    have hg : whyC (ILL vs) o = if (pairsL (quP muchB vs (shs n o)) n).isEmpty = true then 13 else 0 := by unfold whyC; rw [if_pos hd, hf]
    rw [hf, hg]
    rw [hfl] at hH1 ⊢
    repeat' (first | refine zP ?_ | refine zA ?_ | (refine zM ?_; intro _ _) | refine zX ?_ | (refine zC ?_; intro _ _ _ _) | (refine zS ?_; intro _ _) | (apply Ws <;> intro hg))
    rename_i H2 hH2
    refine WR.store2 (by first | exact gN | exact gS rfl) hH2 rfl rfl hv1 rfl .here fun H3 hH3 => ?_
    clear hH1 hH2
    replace hD := hD.mono (M' := (n1, .row 78 0 0 [v, .slice (some ⟨b, 0, some 0⟩) n (2 * n + 1)]) :: (b, .row 116 0 0 (u64s (shs n o))) :: M) fun q hq => .tail _ hq
    repeat' (first | refine zP ?_ | refine zA ?_ | (refine zM ?_; intro _ _) | refine zX ?_ | (refine zC ?_; intro _ _ _ _) | (refine zS ?_; intro _ _) | (apply Ws <;> intro hg))
    refine WR.call (by first | exact gN | exact gS rfl) rfl rfl (first_fs quest_more hD hH3) ?_
    rintro _ H5 ⟨rfl, n5, hn5, hH5⟩
    repeat' (first | refine zP ?_ | refine zA ?_ | (refine zM ?_; intro _ _) | refine zX ?_ | (refine zC ?_; intro _ _ _ _) | (refine zS ?_; intro _ _) | (apply Ws <;> intro hg))
    rename_i H6 hH6
    refine WR.store2 (by first | exact gN | exact gS rfl) hH6 rfl rfl rfl rfl .here fun H7 hH7 => ?_
    rcases yes_cell (pairsL (quP muchB vs (shs n o)) n) with he | ⟨z, zs, he⟩
    · rw [he] at hH7 ⊢
      repeat' (first | refine zP ?_ | refine zA ?_ | (refine zM ?_; intro _ _) | refine zX ?_ | (refine zC ?_; intro _ _ _ _) | (refine zS ?_; intro _ _) | refine zO ?_ | (apply Ws <;> intro hg))
      exact Ends.ret3 rfl rfl rfl ⟨rfl, n5 + 1, by omega, hH7.tail.tail.tail⟩
    · rw [he] at hH7 ⊢
      repeat' (first | refine zP ?_ | refine zA ?_ | (refine zM ?_; intro _ _) | refine zX ?_ | (refine zC ?_; intro _ _ _ _) | (refine zS ?_; intro _ _) | refine zO ?_ | (apply Ws <;> intro hg))
      exact Ends.ret3 rfl rfl rfl ⟨rfl, n5 + 1, by omega, hH7.tail.tail.tail⟩
end
end Go.Proofs.Ytaipmdhnhffckaa.Sh
