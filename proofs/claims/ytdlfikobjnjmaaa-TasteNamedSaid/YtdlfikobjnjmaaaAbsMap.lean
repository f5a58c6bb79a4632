/- Maps, and ranges over strings. -/
import Derived.Test.YtdlfikobjnjmaaaAbsOps2
namespace Go.Abs
set_option linter.unusedSectionVars false
variable [Globs]
open Go
set_option linter.unusedVariables false
set_option linter.unusedSimpArgs false

section
variable {P : Program} {σ : Ren} {N : Nat} {H : Heap} {w : World} {ρ ρ' : Operand → Value} {o : Oper}

theorem sameInt_eq (a b : Int) : sameInt a b = (a == b) := by
  cases a <;> cases b <;> simp only [sameInt] <;> rename_i x y
  · cases hb : Nat.beq x y with
    | true => have := Nat.eq_of_beq_eq_true hb; subst this; simp
    | false =>
      have : x ≠ y := fun e => by subst e; simp at hb
      symm; rw [beq_eq_false_iff_ne]; intro e; exact this (Int.ofNat.inj e)
  · symm; rw [beq_eq_false_iff_ne]; intro e; cases e
  · symm; rw [beq_eq_false_iff_ne]; intro e; cases e
  · cases hb : Nat.beq x y with
    | true => have := Nat.eq_of_beq_eq_true hb; subst this; simp
    | false =>
      have : x ≠ y := fun e => by subst e; simp at hb
      symm; rw [beq_eq_false_iff_ne]; intro e; exact this (Int.negSucc.inj e)

/-- A key's type: of a kind that is compared at once, or an array of integers. -/
abbrev DA (P : Program) (d : TypeDesc) (n : Nat) : Prop := ∃ m e k i, n = m + 3 ∧ d = .array m e ∧ P.underlying e = some (.int k) ∧ P.info? e = some i ∧ i.size = 1
abbrev D3 (d : TypeDesc) (n : Nat) : Prop := (n = 0 ∧ ∃ k, d = .int k) ∨ (n = 1 ∧ d = .string) ∨ (n = 2 ∧ d = .bool)
abbrev DK (P : Program) (d : TypeDesc) (n : Nat) : Prop := D3 d n ∨ DA P d n

theorem keyKind_of {t : TypeId} {n : Nat} (h : keyKind P t = some n) : ∃ d, P.underlying t = some d ∧ DK P d n := by
  unfold keyKind at h
  split at h
  · rename_i k hd; cases h; exact ⟨_, hd, .inl (.inl ⟨rfl, _, rfl⟩)⟩
  · rename_i hd; cases h; exact ⟨_, hd, .inl (.inr (.inl ⟨rfl, rfl⟩))⟩
  · rename_i hd; cases h; exact ⟨_, hd, .inl (.inr (.inr ⟨rfl, rfl⟩))⟩
  · rename_i m e hd
    split at h
    · rename_i k he
      obtain ⟨i, hi⟩ := info_of he
      cases hb : Nat.beq (sizeT P e) 1 with
      | false => rw [hb] at h; cases h
      | true =>
        rw [hb] at h; cases h
        have := Nat.eq_of_beq_eq_true hb
        simp only [sizeT, hi] at this
        exact ⟨_, hd, .inr ⟨m, e, k, i, rfl, rfl, he, hi, this⟩⟩
    · cases h
  · cases h

theorem sameK_now {d : TypeDesc} {n : Nat} (hd : D3 d n) {a b : Value} {r : Bool} (h : sameK n a b = some r) : Instr.sameNow d a b = some r := by
  unfold sameK at h
  split at h
  · rename_i k x k' y
    rcases hd with ⟨_, k0, rfl⟩ | ⟨h0, _⟩ | ⟨h0, _⟩
    · by_cases hk : k = k'
      · subst hk; simp only [decide_true, cond_true, Option.some.injEq] at h; subst h
        simp [Instr.sameNow, sameInt_eq]
      · simp [hk] at h
    · cases h0
    · cases h0
  · rcases hd with ⟨h0, _⟩ | ⟨_, rfl⟩ | ⟨h0, _⟩
    · cases h0
    · cases h; rfl
    · cases h0
  · rcases hd with ⟨h0, _⟩ | ⟨h0, _⟩ | ⟨_, rfl⟩
    · cases h0
    · cases h0
    · cases h; rfl
  · rcases hd with ⟨h0, _⟩ | ⟨h0, _⟩ | ⟨h0, _⟩ <;> simp at h0
  · cases h

theorem ba_eq' {a b : ByteArray} (h : (a == b) = true) : a = b := by
  have h' : (a.data == b.data) = true := h
  exact ByteArray.ext (by simpa using h')

theorem sameCs_eq : ∀ {a b : List Value}, sameCs a b = some true → a = b
  | [], [], _ => rfl
  | x :: a, [], h => by cases x <;> simp [sameCs] at h
  | [], y :: b, h => by simp [sameCs] at h
  | x :: a, y :: b, h => by
    unfold sameCs at h
    split at h
    · rename_i h1 h2; cases h1
    · rename_i k x l k' y l' h1 h2
      cases h1; cases h2
      by_cases hk : k = k'
      · subst hk
        simp only [decide_true, cond_true] at h
        cases hs : sameInt x y with
        | false => rw [hs] at h; cases h
        | true => rw [hs] at h; rw [sameInt_eq] at hs; rw [eq_of_beq hs, sameCs_eq h]
      · simp [hk] at h
    · cases h

theorem sameK_eq {n : Nat} {a b : Value} (h : sameK n a b = some true) : a = b := by
  unfold sameK at h
  split at h
  · rename_i k x k' y
    by_cases hk : k = k'
    · subst hk; simp only [decide_true, cond_true, Option.some.injEq, sameInt_eq, beq_iff_eq] at h; rw [h]
    · simp [hk] at h
  · rw [ba_eq' (Option.some.inj h)]
  · rw [eq_of_beq (Option.some.inj h)]
  · have := sameCs_eq h
    rename_i x y
    cases x; cases y; simp only at this; rw [this]
  · cases h

theorem MR.length {l : List ME} {l' : List MapEntry} (h : MR σ l l') : l'.length = l.length := by
  induction h with
  | nil => rfl
  | cons _ _ _ ih => simp [ih]

theorem MR.append {l : List ME} {l' : List MapEntry} (h : MR σ l l') {k v v' : Value} {b : Nat} (hv : VR σ v v') (hk : plainV k = true) : MR σ (l ++ [⟨k, v, b⟩]) (l' ++ [{ key := k, val := v', born := b }]) := by
  induction h with
  | nil => exact .cons hv hk .nil
  | cons h hk _ ih => exact .cons h hk ih

theorem findM_now {d : TypeDesc} {n : Nat} (hd : D3 d n) {k : Value} {l : List ME} {l' : List MapEntry} (h : MR σ l l') :
    ∀ {i : Nat} {r : Option (Nat × ME)}, findM n k l i = some r →
      (r = none ∧ Instr.findNow d k l' i = some none) ∨ ∃ j e e', r = some (i + j, e) ∧ l'[j]? = some e' ∧ e'.key = k ∧ e'.born = e.b ∧ VR σ e.v e'.val ∧ Instr.findNow d k l' i = some (some (i + j, e'.val)) := by
  induction h with
  | nil => intro i r hr; cases hr; exact .inl ⟨rfl, rfl⟩
  | @cons k0 v v' b l l' hv hk _ ih =>
    intro i r hr
    simp only [findM] at hr
    split at hr
    · rename_i hs
      cases hr
      have hs' := sameK_now hd hs
      exact .inr ⟨0, ⟨k0, v, b⟩, { key := k0, val := v', born := b }, rfl, rfl, (sameK_eq hs).symm, rfl, hv, by simp only [Instr.findNow, hs']; rfl⟩
    · rename_i hs
      have hs' := sameK_now hd hs
      rcases ih hr with ⟨h1, h2⟩ | ⟨j, e, e', h1, h2, h3, h4, h5, h6⟩
      · exact .inl ⟨h1, by simp only [Instr.findNow, hs']; exact h2⟩
      · exact .inr ⟨j + 1, e, e', by rw [h1]; congr 2; omega, by simpa using h2, h3, h4, h5, by simp only [Instr.findNow, hs']; rw [h6]; congr 3; omega⟩
    · cases hr

theorem modM_rel {l : List ME} {l' : List MapEntry} (h : MR σ l l') {f : ME → ME} {f' : MapEntry → MapEntry}
    (hf : ∀ k v v' b, VR σ v v' → plainV k = true → ∃ k2 v2 v2' b2, f ⟨k, v, b⟩ = ⟨k2, v2, b2⟩ ∧ f' { key := k, val := v', born := b } = { key := k2, val := v2', born := b2 } ∧ VR σ v2 v2' ∧ plainV k2 = true) :
    ∀ i, MR σ (modM f l i) (l'.modify i f') := by
  induction h with
  | nil => intro i; cases i <;> exact .nil
  | @cons k v v' b l l' hv hk ht ih =>
    intro i
    cases i with
    | zero =>
      obtain ⟨k2, v2, v2', b2, h1, h2, h3, h4⟩ := hf k v v' b hv hk
      simp only [modM, h1, List.modify_zero_cons, h2]
      exact .cons h3 h4 ht
    | succ i =>
      simp only [modM, List.modify_succ_cons]
      exact .cons hv hk (ih i)

theorem delM_rel {l : List ME} {l' : List MapEntry} (h : MR σ l l') : ∀ i, MR σ (delM l i) (l'.eraseIdx i) := by
  induction h with
  | nil => intro i; cases i <;> exact .nil
  | cons hv hk ht ih =>
    intro i
    cases i with
    | zero => exact ht
    | succ i => exact .cons hv hk (ih i)

theorem bornM_rel {l : List ME} {l' : List MapEntry} (h : MR σ l l') {b : Nat} : ∀ {i j : Nat}, bornM b l i = some j → ∃ k, j = i + k ∧ l'.findIdx? (fun e => (e.born : Int) == (b : Int)) = some k := by
  induction h with
  | nil => intro i j h; cases h
  | @cons k v v' b0 l l' hv hk ht ih =>
    intro i j h
    simp only [bornM] at h
    rw [List.findIdx?_cons]
    cases hb : Nat.beq b0 b with
    | true =>
      rw [hb, cond_true] at h; cases h
      have := Nat.eq_of_beq_eq_true hb
      subst this
      exact ⟨0, rfl, by simp⟩
    | false =>
      rw [hb, cond_false] at h
      have hne : b0 ≠ b := fun e => by subst e; simp at hb
      obtain ⟨k, h1, h2⟩ := ih h
      have hne' : ((b0 : Int) == (b : Int)) = false := by rw [beq_eq_false_iff_ne]; omega
      exact ⟨k + 1, by omega, by simp only [hne', h2]; rfl⟩

theorem allInt_plain : ∀ {l : List Value}, l.all isInt = true → l.all plain1 = true
  | [], _ => rfl
  | v :: l, h => by
    simp only [List.all_cons, Bool.and_eq_true] at h ⊢
    refine ⟨?_, allInt_plain h.2⟩
    have := h.1
    cases v <;> first | rfl | (simp [isInt] at this)

theorem isKeyK_is {n : Nat} {k : Value} (h : isKeyK n k = true) : plainV k = true := by
  unfold isKeyK at h
  split at h <;> first | rfl | (simp only [Bool.and_eq_true] at h; exact allInt_plain h.2) | cases h

theorem run_sizeOf1 {e : TypeId} {i : TypeInfo} (hi : P.info? e = some i) (h1 : i.size = 1) : (sizeOf e).run P w = .ok 1 w := by
  unfold sizeOf
  have := run_typeInfo (w := w) hi
  simp [this, h1]

theorem run_part1 {e : TypeId} {k : IntKind} (he : P.underlying e = some (.int k)) {cs : Array Value} {o : Nat} {v : Value} (h : cs[o]? = some v) : (part e cs o).run P w = .ok v w := by
  unfold part isAgg
  have e1 := run_underlying (w := w) he
  simp [e1, h]

theorem run_checkKeyS {kt : TypeId} {d : TypeDesc} {n : Nat} (hu : P.underlying kt = some d) (hd : DK P d n) {k : Value} (hk : isKeyK n k = true) (e : Bool) : (Instr.checkKey e 10000 kt k).run P w = .ok () w := by
  rw [show (10000 : Nat) = 9998 + 1 + 1 from rfl]
  have e1 := run_underlying (w := w) hu
  rcases hd with (⟨_, k0, rfl⟩ | ⟨_, rfl⟩ | ⟨_, rfl⟩) | ⟨m, et, kd, i, rfl, rfl, he, hi, h1⟩
  · unfold Instr.checkKey; simp [e1]
  · unfold Instr.checkKey; simp [e1]
  · unfold Instr.checkKey; simp [e1]
  · cases k with
    | agg cs =>
      have hk' : Nat.beq cs.size m = true ∧ cs.toList.all isInt = true := by simpa [isKeyK] using hk
      have hs := Nat.eq_of_beq_eq_true hk'.1
      have key : ∀ n s, s + n ≤ m → (forIn (List.range' s n) PUnit.unit (fun i (_ : PUnit) => do
          Instr.checkKey e (9998 + 1) et (← part et cs (i * (← sizeOf et)))
          pure (ForInStep.yield PUnit.unit) : Nat → PUnit → Sem (ForInStep PUnit))).run P w = .ok PUnit.unit w := by
        intro n
        induction n with
        | zero => intro s _; simp
        | succ n ih =>
          intro s hsn
          obtain ⟨v, hv⟩ : ∃ v, cs[s]? = some v := ⟨cs[s]'(by omega), by simp [show s < cs.size by omega]⟩
          have e2 := run_part1 (P := P) (w := w) he hv
          have e3 := run_sizeOf1 (P := P) (w := w) hi h1
          have e4 := run_underlying (w := w) he
          have e5 : (Instr.checkKey e (9998 + 1) et v).run P w = .ok () w := by unfold Instr.checkKey; simp [e4]
          rw [List.range'_succ, List.forIn_cons]
          simp only [Sem.run_bind, e3, Result.andThen_ok, Nat.mul_one, e2, Sem.run_pure, e5]
          exact ih (s + 1) (by omega)
      unfold Instr.checkKey
      simp only [Sem.run_bind, e1, Result.andThen_ok, Std.Legacy.Range.forIn_eq_forIn_range', Std.Legacy.Range.size, Nat.sub_zero, Nat.add_sub_cancel, Nat.div_one]
      first
      | exact key m 0 (by omega)
      | (rw [key m 0 (by omega)]; first | done | rfl)
    | _ => simp [isKeyK] at hk

theorem run_equalA {kt et : TypeId} {m : Nat} {kd : IntKind} {i : TypeInfo} (hu : P.underlying kt = some (.array m et)) (he : P.underlying et = some (.int kd)) (hi : P.info? et = some i) (h1 : i.size = 1)
    {xs ys : Array Value} (hx : xs.size = m) {b : Bool} (h : sameCs xs.toList ys.toList = some b) : (Op.equal kt (.agg xs) (.agg ys)).run P w = .ok b w := by
  show (Op.equalIn (9998 + 1 + 1) kt (.agg xs) (.agg ys)).run P w = .ok b w
  have e1 := run_underlying (w := w) hu
  have e4 := run_underlying (w := w) he
  have e3 := run_sizeOf1 (P := P) (w := w) hi h1
  have key : ∀ n s, s + n = m → sameCs (xs.toList.drop s) (ys.toList.drop s) = some b → (forIn (List.range' s n) ((none, ()) : Option Bool × Unit) (fun i (_ : Option Bool × Unit) => do
      let q1 ← part et xs (i * 1)
      let q2 ← part et ys (i * 1)
      let q3 ← Op.equalIn (9998 + 1) et q1 q2
      if (!q3) = true then pure (ForInStep.done (some false, ())) else pure (ForInStep.yield (none, ())) : Nat → Option Bool × Unit → Sem (ForInStep (Option Bool × Unit)))).run P w = .ok (bif b then (none, ()) else (some false, ())) w := by
    intro n
    induction n with
    | zero =>
      intro s hs h
      rw [List.drop_of_length_le (by simp; omega)] at h
      cases hy : ys.toList.drop s with
      | nil => rw [hy] at h; cases h; simp
      | cons y l => rw [hy] at h; simp [sameCs] at h
    | succ n ih =>
      intro s hs h
      have hlt : s < xs.toList.length := by simp; omega
      rw [List.drop_eq_getElem_cons hlt] at h
      cases hy : ys.toList.drop s with
      | nil => rw [hy] at h; cases hq : xs.toList[s] <;> simp [sameCs, hq] at h
      | cons y l =>
        have hlt2 : s < ys.toList.length := by
          rcases Nat.lt_or_ge s ys.toList.length with h | h
          · exact h
          · rw [List.drop_of_length_le h] at hy; cases hy
        rw [hy] at h
        rw [List.drop_eq_getElem_cons hlt2] at hy
        have hl : l = ys.toList.drop (s + 1) := (List.cons.inj hy).2.symm
        have hy0 : ys.toList[s] = y := (List.cons.inj hy).1
        unfold sameCs at h
        split at h
        · rename_i q1 q2; cases q1
        · rename_i k x l1 k' y' l2 q1 q2
          obtain ⟨r1, r2⟩ := List.cons.inj q1
          obtain ⟨r3, r4⟩ := List.cons.inj q2
          have g1 : xs[s]? = some (.int k x) := by rw [← Array.getElem?_toList, List.getElem?_eq_getElem hlt, r1]
          have g2 : ys[s]? = some (.int k' y') := by rw [← Array.getElem?_toList, List.getElem?_eq_getElem hlt2, hy0, r3]
          have e5 := run_part1 (P := P) (w := w) he g1
          have e6 := run_part1 (P := P) (w := w) he g2
          by_cases hk : k = k'
          · subst hk
            simp only [decide_true, cond_true, sameInt_eq] at h
            have e7 : (Op.equalIn (9998 + 1) et (.int k x) (.int k y')).run P w = .ok (x == y') w := by unfold Op.equalIn; simp [e4]
            rw [List.range'_succ, List.forIn_cons]
            simp only [Sem.run_bind, Nat.mul_one, e5, e6, e7, Result.andThen_ok]
            cases hxy : (x == y') with
            | false => rw [hxy] at h; simp only [cond_false, Option.some.injEq] at h; subst h; simp
            | true =>
              rw [hxy] at h
              simp only [cond_true, ← r2, ← r4, hl] at h
              have := ih (s + 1) (by omega) h
              simp only [Nat.mul_one] at this
              simpa using this
          · simp [hk] at h
        · cases h
  unfold Op.equalIn
  simp only [Sem.run_bind, e1, e3, Result.andThen_ok, Std.Legacy.Range.forIn_eq_forIn_range', Std.Legacy.Range.size, Nat.sub_zero, Nat.add_sub_cancel, Nat.div_one]
  have := key m 0 (by omega) (by simpa using h)
  simp only [Nat.mul_one] at this ⊢
  erw [this]
  cases b <;> simp

/-- An entry is sought. -/
theorem find_ask {kt : TypeId} {d : TypeDesc} {n : Nat} (hu : P.underlying kt = some d) (hd : DA P d n) {k : Value} (hb : isKeyK n k = true) {l : List ME} {l' : List MapEntry} (h : MR σ l l') :
    ∀ {i : Nat} {r : Option (Nat × ME)}, findM n k l i = some r →
      (r = none ∧ (Instr.findAsking kt k l' i).run P w = .ok none w) ∨ ∃ j e e', r = some (i + j, e) ∧ l'[j]? = some e' ∧ e'.key = k ∧ e'.born = e.b ∧ VR σ e.v e'.val ∧ (Instr.findAsking kt k l' i).run P w = .ok (some (i + j, e'.val)) w := by
  obtain ⟨m, et, kd, inf, rfl, rfl, he, hi, h1⟩ := hd
  cases k with
  | agg cs =>
    have hk' : Nat.beq cs.size m = true ∧ cs.toList.all isInt = true := by simpa [isKeyK] using hb
    have hs := Nat.eq_of_beq_eq_true hk'.1
    induction h with
    | nil => intro i r hr; cases hr; exact .inl ⟨rfl, rfl⟩
    | @cons k0 v v' b l l' hv hk _ ih =>
      intro i r hr
      simp only [findM] at hr
      have key : ∀ q, sameK (m + 3) (.agg cs) k0 = some q → (Op.equal kt (.agg cs) k0).run P w = .ok q w := by
        intro q hq
        cases k0 <;> first | (simp [sameK] at hq; done) | skip
        exact run_equalA hu he hi h1 hs hq
      split at hr
      · rename_i hs
        cases hr
        have hs' := key _ hs
        exact .inr ⟨0, ⟨k0, v, b⟩, { key := k0, val := v', born := b }, rfl, rfl, (sameK_eq hs).symm, rfl, hv, by simp [Instr.findAsking, hs']⟩
      · rename_i hs
        have hs' := key _ hs
        rcases ih hr with ⟨h1, h2⟩ | ⟨j, e, e', h1, h2, h3, h4, h5, h6⟩
        · exact .inl ⟨h1, by simp [Instr.findAsking, hs', h2]⟩
        · exact .inr ⟨j + 1, e, e', by rw [h1]; congr 2; omega, by simpa using h2, h3, h4, h5, by simp [Instr.findAsking, hs', h6]; omega⟩
      · cases hr
  | _ => simp [isKeyK] at hb

theorem find_key {kt : TypeId} {d : TypeDesc} {n : Nat} (hu : P.underlying kt = some d) (hd : DK P d n) {k : Value} (hb : isKeyK n k = true) {l : List ME} {l' : List MapEntry} (h : MR σ l l') {r : Option (Nat × ME)} (hr : findM n k l 0 = some r) :
      (r = none ∧ (Instr.findKey kt k l').run P w = .ok none w) ∨ ∃ j e e', r = some (j, e) ∧ l'[j]? = some e' ∧ e'.key = k ∧ e'.born = e.b ∧ VR σ e.v e'.val ∧ (Instr.findKey kt k l').run P w = .ok (some (j, e'.val)) w := by
  have e1 := run_underlying (w := w) hu
  rcases hd with hd | hd
  · rcases findM_now hd h hr with ⟨h1, h2⟩ | ⟨j, e, e', h1, h2, h3, h4, h5, h6⟩
    · exact .inl ⟨h1, by simp [Instr.findKey, e1, h2]⟩
    · rw [Nat.zero_add] at h1 h6
      exact .inr ⟨j, e, e', h1, h2, h3, h4, h5, by simp [Instr.findKey, e1, h6]⟩
  · have h0 := hd
    obtain ⟨m, et, kd, inf, _, rfl, _⟩ := h0
    have hnow : Instr.findNow (.array m et) k l' 0 = none ∨ l' = [] := by
      cases l' with
      | nil => exact .inr rfl
      | cons a l' => refine .inl ?_; simp only [Instr.findNow, Instr.sameNow]
    rcases hnow with hnow | rfl
    · rcases find_ask (w := w) hu hd hb h hr with ⟨h1, h2⟩ | ⟨j, e, e', h1, h2, h3, h4, h5, h6⟩
      · exact .inl ⟨h1, by simp [Instr.findKey, e1, hnow, h2]⟩
      · rw [Nat.zero_add] at h1 h6
        exact .inr ⟨j, e, e', h1, h2, h3, h4, h5, by simp [Instr.findKey, e1, hnow, h6]⟩
    · cases h; cases hr
      exact .inl ⟨rfl, by simp [Instr.findKey, e1, Instr.findNow]⟩

theorem mapKind_of {t : TypeId} {n : Nat} {z : Value} (h : mapKind P t = some (n, z)) : ∃ k e d, P.underlying t = some (.map k e) ∧ P.underlying k = some d ∧ DK P d n ∧
    ∃ i, P.info? e = some i ∧ i.zero = some z ∧ plainV z = true := by
  unfold mapKind at h
  split at h
  · rename_i k e hd
    split at h
    · rename_i m z' hk hz
      cases h
      obtain ⟨d, h1, h2⟩ := keyKind_of hk
      refine ⟨k, e, d, hd, h1, h2, ?_⟩
      unfold zeroV at hz
      split at hz
      · rename_i i hi
        split at hz
        · rename_i z2 hz2
          obtain ⟨hb, he⟩ := bif_some hz
          cases he
          exact ⟨i, hi, hz2, hb⟩
        · cases hz
      · cases hz
    · cases h
  · cases h

theorem VR.map_inv {r : Nat} {v' : Value} (h : VR σ (.map (some r)) v') : ∃ b, v' = .map (some b) ∧ σ.obj r = some b := by
  cases h with
  | map h => exact ⟨_, rfl, h⟩

/-- The map's block. -/
theorem map_blk (h : HR P σ N H w) {r b : Nat} (hb : σ.obj r = some b) {l : List ME} {c : Nat} (hg : H.t.get r = some (.map l c)) : ∃ l', w.heap[b]? = some (.map l'.toArray c) ∧ MR σ l l' := by
  obtain ⟨b', o', q1, q2, q3, q4⟩ := h.objs r _ hg (by simp)
  rw [hb] at q1; cases q1
  cases q4 with
  | map hm => exact ⟨_, q3, hm⟩

theorem withMap_val {x : Value} {k : Nat → List ME → Nat → ORes} {v : Value} {H' : Heap} (h : withMap x H k = .val v H') : ∃ r l c, x = .map (some r) ∧ H.t.get r = some (.map l c) ∧ k r l c = .val v H' := by
  unfold withMap at h
  split at h
  · rename_i r
    split at h
    · rename_i l c hg; exact ⟨r, l, c, rfl, hg, h⟩
    · cases h
  · cases h

/-- A map turns. -/
theorem turn_OK (h : HR P σ N H w) {r b c c' : Nat} {l l2 : List ME} {l' l2' : List MapEntry} (hb : σ.obj r = some b) (hg : H.t.get r = some (.map l c)) (hw : w.heap[b]? = some (.map l'.toArray c)) (hm : MR σ l2 l2')
    {s : Sem Next} {n : Next} {v v' : Value} (hr : s.run P w = .ok n { w with heap := w.heap.setIfInBounds b (.map l2'.toArray c') }) (hn : nextVal n = some v') (hv : VR σ v v') : OpOK P σ N H w s v (H.upd r (.map l2 c')) := by
  obtain ⟨u1, u2⟩ := upd_sound h hg (by simp) (o2 := .map l2 c') (by simp) hb (.map hm)
  exact ⟨σ, v', _, n, hr, hn, σ.le_refl, u1, hv, u2⟩

theorem getM {r : Nat} {es : Array MapEntry} {c : Nat} (hb : w.heap[r]? = some (.map es c)) : (getObj r).run P w = .ok (.map es c) w := by simp [getObj, Sem.run, hb]
theorem setM {r : Nat} {es : Array MapEntry} {c : Nat} (q : Obj) (hb : w.heap[r]? = some (.map es c)) : (setObj r q).run P w = .ok () { w with heap := w.heap.setIfInBounds r q } := by simp [setObj, Sem.run, hb]

theorem ok_mkM (h : HR P σ N H w) {t k e : TypeId} {r : Option Operand} (hop : o.op = .makeMap t r) (hd : P.underlying t = some (.map k e)) (hr : ∀ y, r = some y → VR σ (ρ y) (ρ' y)) {v : Value} {H' : Heap}
    (hv : oMkM (r.map ρ) H = .val v H') : OpOK P σ N H w (execOp ρ' o) v H' := by
  have key : ∀ {v H'}, newMap H = .val v H' → ∀ (x : Option Value), r.map ρ' = x → (x = none ∨ ∃ k n, x = some (.int k n)) → OpOK P σ N H w (execOp ρ' o) v H' := by
    intro v H' hv x hx hc
    cases hv
    obtain ⟨q1, q2, q3, q4⟩ := obj_sound h (o := .map [] 0) (o' := .map #[] 0) (.map (l' := []) .nil) (by simp) (w' := { w with heap := w.heap.push (.map #[] 0) }) ⟨rfl, rfl, rfl⟩
    refine ⟨_, .map (some w.heap.size), _, .value (.map (some w.heap.size)), ?_, rfl, q1, q2, .map q4, q3⟩
    have e1 := run_underlying (w := w) hd
    rcases hc with rfl | ⟨k, n, rfl⟩
    · simp [execOp, hop, hx, Instr.makeMap]
    · simp [execOp, hop, hx, Instr.makeMap, e1, asInt, asIntOf]
  cases r with
  | none => exact key hv _ rfl (.inl rfl)
  | some y =>
    have hy := hr y rfl
    simp only [Option.map_some, oMkM] at hv
    generalize hq : ρ y = q at hy hv
    split at hv
    · rename_i he; cases he
    · rename_i k n he
      cases he
      generalize hq' : ρ' y = q' at hy
      cases hy
      exact key hv _ rfl (.inr ⟨_, _, by simp [hq']; exact ⟨rfl, rfl⟩⟩)
    · cases hv

theorem got_VR {v v' : Value} (h : VR σ v v') (ok b : Bool) : VR σ (got ok v b) (got ok v' b) := by
  cases ok
  · exact h
  · exact .tuple_list (.cons h (.cons (.bool b) .nil))

theorem ok_mget (h : HR P σ N H w) {t : TypeId} {n : Nat} {z : Value} {x k : Operand} {ok : Bool} (hop : o.op = .lookup t x k ok) (hmk : mapKind P t = some (n, z)) (hx : VR σ (ρ x) (ρ' x)) (hk : VR σ (ρ k) (ρ' k)) {v : Value} {H' : Heap}
    (hv : oMget n z (ρ x) (ρ k) ok H = .val v H') : OpOK P σ N H w (execOp ρ' o) v H' := by
  obtain ⟨kt, et, d, hd, hkd, hn, i, hi, hz, hpz⟩ := mapKind_of hmk
  unfold oMget at hv
  cases hb : isKeyK n (ρ k) with
  | false => rw [hb] at hv; cases hv
  | true =>
    rw [hb, cond_true] at hv
    have hk' := hk.plainV_ (isKeyK_is hb)
    have e1 := run_underlying (w := w) hd
    have e2 := run_underlying (w := w) hkd
    have e4 := run_zeroValue (w := w) hi hz
    have e3 := fun e => run_checkKeyS (w := w) hkd hn hb e
    split at hv
    · rename_i he
      cases hv
      have hx' : ρ' x = .map none := by rw [he] at hx; generalize ρ' x = y at hx; cases hx; rfl
      refine OpOK.still h (v' := got ok z false) ?_ (got_VR (VR.refl_plain hpz) _ _)
      cases ok <;> simp [execOp, hop, Instr.lookup, e1, hx', e3, hk', Instr.findKey, e2, Instr.findNow, e4, got]
    · obtain ⟨r, l, c, he, hg, hv⟩ := withMap_val hv
      rw [he] at hx
      obtain ⟨b, hx', hob⟩ := hx.map_inv
      obtain ⟨l', hw, hm⟩ := map_blk h hob hg
      have e5 := getM (P := P) hw
      split at hv
      · rename_i j e hf
        cases hv
        rcases find_key (w := w) hkd hn hb hm hf with ⟨h1, _⟩ | ⟨j', e0, e', h1, h2, h3, h4, h5, h6⟩
        · cases h1
        · cases h1
          refine OpOK.still h (v' := got ok e'.val true) ?_ (got_VR h5 _ _)
          cases ok <;> simp [execOp, hop, Instr.lookup, e1, hx', e3, hk', h6, e5, got]
      · rename_i hf
        cases hv
        rcases find_key (w := w) hkd hn hb hm hf with ⟨_, h6⟩ | ⟨j', e0, e', h1, _⟩
        · refine OpOK.still h (v' := got ok z false) ?_ (got_VR (VR.refl_plain hpz) _ _)
          cases ok <;> simp [execOp, hop, Instr.lookup, e1, hx', e3, hk', h6, e5, e4, got]
        · cases h1
      · cases hv

theorem ba_refl (s : ByteArray) : (s == s) = true := by
  show (s.data == s.data) = true
  simp

theorem bits_refl : ∀ {l : List Value}, l.all isInt = true → (l.zip l).all (fun (x, y) => Instr.sameBits 9999 x y) = true
  | [], _ => rfl
  | v :: l, h => by
    simp only [List.all_cons, Bool.and_eq_true] at h
    simp only [List.zip_cons_cons, List.all_cons, Bool.and_eq_true]
    refine ⟨?_, bits_refl h.2⟩
    have := h.1
    cases v <;> first | (simp [isInt] at this; done) | (rw [show (9999 : Nat) = 9998 + 1 from rfl]; simp [Instr.sameBits])

theorem stays {n : Nat} {k : Value} (hd : isKeyK n k = true) : (Instr.keyThatStays k k).run P w = .ok k w := by
  unfold isKeyK at hd
  have key : ∀ k : Value, Instr.sameBits 10000 k k = true → (Instr.keyThatStays k k).run P w = .ok k w := fun k h => by unfold Instr.keyThatStays; rw [if_pos h]; rfl
  split at hd
  · exact key _ (by rw [show (10000 : Nat) = 9999 + 1 from rfl]; simp [Instr.sameBits])
  · exact key _ (by rw [show (10000 : Nat) = 9999 + 1 from rfl]; simp only [Instr.sameBits]; exact ba_refl _)
  · exact key _ (by rw [show (10000 : Nat) = 9999 + 1 from rfl]; simp [Instr.sameBits])
  · simp only [Bool.and_eq_true] at hd
    exact key _ (by rw [show (10000 : Nat) = 9999 + 1 from rfl]; simp only [Instr.sameBits, Bool.and_eq_true]; exact ⟨by simp, bits_refl hd.2⟩)
  · cases hd

theorem ok_mput (h : HR P σ N H w) {t : TypeId} {n : Nat} {z : Value} {x k y : Operand} (hop : o.op = .mapUpdate t x k y ∨ o.op = .insert t x k y) (hmk : mapKind P t = some (n, z)) (hx : VR σ (ρ x) (ρ' x)) (hk : VR σ (ρ k) (ρ' k)) (hy : VR σ (ρ y) (ρ' y)) {v : Value} {H' : Heap}
    (hv : oMput n (ρ x) (ρ k) (ρ y) H = .val v H') : OpOK P σ N H w (execOp ρ' o) v H' := by
  obtain ⟨kt, et, d, hd, hkd, hn, i, hi, hz, hpz⟩ := mapKind_of hmk
  have hex : execOp ρ' o = (do Instr.mapUpdate t (ρ' x) (ρ' k) (ρ' y); pure .skip) := by rcases hop with hop | hop <;> simp [execOp, hop]
  unfold oMput at hv
  cases hb : isKeyK n (ρ k) with
  | false => rw [hb] at hv; cases hv
  | true =>
    rw [hb, cond_true] at hv
    have hpk := isKeyK_is hb
    have hk' := hk.plainV_ hpk
    have e1 := run_underlying (w := w) hd
    have e2 := run_underlying (w := w) hkd
    have e3 := fun e => run_checkKeyS (w := w) hkd hn hb e
    obtain ⟨r, l, c, he, hg, hv⟩ := withMap_val hv
    rw [he] at hx
    obtain ⟨b, hx', hob⟩ := hx.map_inv
    obtain ⟨l', hw, hm⟩ := map_blk h hob hg
    have e5 := getM (P := P) hw
    have e6 := fun q => setM (P := P) q hw
    split at hv
    · rename_i j e hf
      cases hv
      rcases find_key (w := w) hkd hn hb hm hf with ⟨h1, _⟩ | ⟨j', e0, e', h1, h2, h3, h4, h5, h6⟩
      · cases h1
      · cases h1
        refine turn_OK h hob hg hw (modM_rel hm (f' := fun e => { e with key := ρ k, val := ρ' y }) (fun k0 v0 v0' b0 _ _ => ⟨_, _, _, _, rfl, rfl, hy, hpk⟩) j) (n := .skip) (v' := undef) ?_ rfl (VR.undef _)
        rw [hex]
        simp [Instr.mapUpdate, e1, hx', e3, hk', h6, e5, h2, h3, stays hb, e6]
    · rename_i hf
      cases hv
      rcases find_key (w := w) hkd hn hb hm hf with ⟨_, h6⟩ | ⟨j', e0, e', h1, _⟩
      · refine turn_OK h hob hg hw (hm.append hy hpk) (n := .skip) (v' := undef) ?_ rfl (VR.undef _)
        rw [hex]
        simp [Instr.mapUpdate, e1, hx', e3, hk', h6, e5, e6]
      · cases h1
    · cases hv

theorem ok_mdel (h : HR P σ N H w) {c : Call} {x k : Operand} {st : TypeId} {n : Nat} {z : Value} (hop : o.op = .call c) (hcal : c.callee = .builtin .delete) (hargs : c.args = #[x, k]) (ht : c.argTypes[0]? = some st)
    (hmk : mapKind P st = some (n, z)) (hx : VR σ (ρ x) (ρ' x)) (hk : VR σ (ρ k) (ρ' k)) {v : Value} {H' : Heap} (hv : oMdel n (ρ x) (ρ k) H = .val v H') : OpOK P σ N H w (execOp ρ' o) v H' := by
  obtain ⟨kt, et, d, hd, hkd, hn, i, hi, hz, hpz⟩ := mapKind_of hmk
  unfold oMdel at hv
  cases hb : isKeyK n (ρ k) with
  | false => rw [hb] at hv; cases hv
  | true =>
    rw [hb, cond_true] at hv
    have hpk := isKeyK_is hb
    have hk' := hk.plainV_ hpk
    have e1 := run_underlying (w := w) hd
    have e2 := run_underlying (w := w) hkd
    have e3 := fun e => run_checkKeyS (w := w) hkd hn hb e
    split at hv
    · rename_i he
      cases hv
      have hx' : ρ' x = .map none := by rw [he] at hx; generalize ρ' x = y at hx; cases hx; rfl
      exact OpOK.still h (v' := undef) (by simp [execOp, hop, resolve, hcal, hargs, invoke, builtin, Builtin.delete_, ht, e1, hx', hk', e3, undef]) (VR.undef _)
    · obtain ⟨r, l, cl, he, hg, hv⟩ := withMap_val hv
      rw [he] at hx
      obtain ⟨b, hx', hob⟩ := hx.map_inv
      obtain ⟨l', hw, hm⟩ := map_blk h hob hg
      have e5 := getM (P := P) hw
      have e6 := fun q => setM (P := P) q hw
      split at hv
      · rename_i j e hf
        cases hv
        rcases find_key (w := w) hkd hn hb hm hf with ⟨h1, _⟩ | ⟨j', e0, e', h1, h2, h3, h4, h5, h6⟩
        · cases h1
        · cases h1
          refine turn_OK h hob hg hw (delM_rel hm j) (n := .value undef) (v' := undef) ?_ rfl (VR.undef _)
          simp [execOp, hop, resolve, hcal, hargs, invoke, builtin, Builtin.delete_, ht, e1, hx', hk', e3, undef, h6, e5, e6]
      · rename_i hf
        cases hv
        rcases find_key (w := w) hkd hn hb hm hf with ⟨_, h6⟩ | ⟨j', e0, e', h1, _⟩
        · refine turn_OK h hob hg hw hm (n := .value undef) (v' := undef) ?_ rfl (VR.undef _)
          simp [execOp, hop, resolve, hcal, hargs, invoke, builtin, Builtin.delete_, ht, e1, hx', hk', e3, undef, h6, e5, e6]
        · cases h1
      · cases hv

theorem ok_mlen (h : HR P σ N H w) {c : Call} {x : Operand} {st kt et : TypeId} (hop : o.op = .call c) (hcal : c.callee = .builtin .len) (hargs : c.args = #[x]) (ht : c.argTypes[0]? = some st) (hd : P.underlying st = some (.map kt et))
    (hx : VR σ (ρ x) (ρ' x)) {v : Value} {H' : Heap} (hv : oMlen (ρ x) H = .val v H') : OpOK P σ N H w (execOp ρ' o) v H' := by
  have e1 := run_underlying (w := w) hd
  unfold oMlen at hv
  split at hv
  · rename_i he
    cases hv
    have hx' : ρ' x = .map none := by rw [he] at hx; generalize ρ' x = y at hx; cases hx; rfl
    exact OpOK.still h (v' := goInt 0) (by simp [execOp, hop, resolve, hcal, hargs, invoke, builtin, Builtin.len_, ht, e1, hx']) (.int _ _)
  · obtain ⟨r, l, cl, he, hg, hv⟩ := withMap_val hv
    cases hv
    rw [he] at hx
    obtain ⟨b, hx', hob⟩ := hx.map_inv
    obtain ⟨l', hw, hm⟩ := map_blk h hob hg
    have e5 := getM (P := P) hw
    exact OpOK.still h (v' := goInt l.length) (by simp [execOp, hop, resolve, hcal, hargs, invoke, builtin, Builtin.len_, ht, e1, hx', e5, hm.length]) (.int _ _)

theorem ok_ment (h : HR P σ N H w) {t : TypeId} {n : Nat} {z : Value} {x k : Operand} (hop : o.op = .mapEntry t x k) (hmk : mapKind P t = some (n, z)) (hx : VR σ (ρ x) (ρ' x)) (hk : VR σ (ρ k) (ρ' k)) {v : Value} {H' : Heap}
    (hv : oMent n z (ρ x) (ρ k) H = .val v H') : OpOK P σ N H w (execOp ρ' o) v H' := by
  obtain ⟨kt, et, d, hd, hkd, hn, i, hi, hz, hpz⟩ := mapKind_of hmk
  unfold oMent at hv
  cases hb : isKeyK n (ρ k) with
  | false => rw [hb] at hv; cases hv
  | true =>
    rw [hb, cond_true] at hv
    have hpk := isKeyK_is hb
    have hk' := hk.plainV_ hpk
    have e1 := run_underlying (w := w) hd
    have e2 := run_underlying (w := w) hkd
    have e3 := fun e => run_checkKeyS (w := w) hkd hn hb e
    have e4 := run_zeroValue (w := w) hi hz
    obtain ⟨r, l, c, he, hg, hv⟩ := withMap_val hv
    rw [he] at hx
    obtain ⟨b, hx', hob⟩ := hx.map_inv
    obtain ⟨l', hw, hm⟩ := map_blk h hob hg
    have e5 := getM (P := P) hw
    have e6 := fun q => setM (P := P) q hw
    split at hv
    · rename_i j e hf
      cases hv
      rcases find_key (w := w) hkd hn hb hm hf with ⟨h1, _⟩ | ⟨j', e0, e', h1, h2, h3, h4, h5, h6⟩
      · cases h1
      · cases h1
        refine turn_OK h hob hg hw (modM_rel hm (f' := fun e => { e with key := ρ k }) (fun k0 v0 v0' b0 h0 _ => ⟨_, _, _, _, rfl, rfl, h0, hpk⟩) j) (n := .value (.tuple #[e'.val, goInt e.b])) (v' := .tuple #[e'.val, goInt e.b]) ?_ rfl
          (.tuple_list (.cons h5 (.cons (.int _ _) .nil)))
        simp [execOp, hop, Instr.mapEntry, e1, hx', e3, hk', h6, e5, h2, h3, stays hb, e6, h4]
    · rename_i hf
      cases hv
      rcases find_key (w := w) hkd hn hb hm hf with ⟨_, h6⟩ | ⟨j', e0, e', h1, _⟩
      · have hzr := VR.refl_plain (σ := σ) hpz
        refine turn_OK h hob hg hw (hm.append hzr hpk) (n := .value (.tuple #[z, goInt c])) (v' := .tuple #[z, goInt c]) ?_ rfl (.tuple_list (.cons hzr (.cons (.int _ _) .nil)))
        simp [execOp, hop, Instr.mapEntry, e1, hx', e3, hk', h6, e5, e6, e4]
      · cases h1
    · cases hv

theorem ok_mset (h : HR P σ N H w) {t : TypeId} {x s y : Operand} (hop : o.op = .entryStore t x s y) (hx : VR σ (ρ x) (ρ' x)) (hs : VR σ (ρ s) (ρ' s)) (hy : VR σ (ρ y) (ρ' y)) {v : Value} {H' : Heap}
    (hv : oMset (ρ x) (ρ s) (ρ y) H = .val v H') : OpOK P σ N H w (execOp ρ' o) v H' := by
  unfold oMset at hv
  split at hv
  · rename_i b0 hb0
    obtain ⟨ki, hs1, hs2⟩ := hs.natOf_ hb0
    obtain ⟨r, l, c, he, hg, hv⟩ := withMap_val hv
    rw [he] at hx
    obtain ⟨b, hx', hob⟩ := hx.map_inv
    obtain ⟨l', hw, hm⟩ := map_blk h hob hg
    have e5 := getM (P := P) hw
    have e6 := fun q => setM (P := P) q hw
    split at hv
    · rename_i j hj
      cases hv
      obtain ⟨j', rfl, hf⟩ := bornM_rel hm hj
      rw [Nat.zero_add]
      refine turn_OK h hob hg hw (modM_rel hm (f' := fun e => { e with val := ρ' y }) (fun k0 v0 v0' b0 h0 hk0 => ⟨_, _, _, _, rfl, rfl, hy, hk0⟩) j') (n := .skip) (v' := undef) ?_ rfl (VR.undef _)
      simp [execOp, hop, Instr.entryStore, hx', hs2, asInt, asIntOf, e5, hf, e6]
    · cases hv
  · cases hv

theorem VR.iter_inv {r : Nat} {v' : Value} (h : VR σ (.chan (some r)) v') : ∃ b, v' = .pointer (some ⟨b, 0, none⟩) ∧ σ.obj r = some b := by
  cases h with
  | iter h => exact ⟨_, rfl, h⟩

theorem ok_strIt (h : HR P σ N H w) {t : TypeId} {x : Operand} (hop : o.op = .range t x) (hd : P.underlying t = some .string) (hx : VR σ (ρ x) (ρ' x)) {v : Value} {H' : Heap} (hv : oStrIt (ρ x) H = .val v H') : OpOK P σ N H w (execOp ρ' o) v H' := by
  have e1 := run_underlying (w := w) hd
  unfold oStrIt at hv
  split at hv
  · rename_i s he
    cases hv
    rw [he] at hx
    have hx' : ρ' x = .string s := by generalize ρ' x = y at hx; cases hx; rfl
    obtain ⟨q1, q2, q3, q4⟩ := obj_sound h (o := .iter s 0) (o' := .stringIter s 0) (.iter s 0) (by simp) (w' := { w with heap := w.heap.push (.stringIter s 0) }) ⟨rfl, rfl, rfl⟩
    exact ⟨_, .pointer (some ⟨w.heap.size, 0, none⟩), _, .value (.pointer (some ⟨w.heap.size, 0, none⟩)), by simp [execOp, hop, hx', Instr.range, e1], rfl, q1, q2, .iter q4, q3⟩
  · cases hv

theorem ok_strNx (h : HR P σ N H w) {x : Operand} (hop : o.op = .next x true) (hx : VR σ (ρ x) (ρ' x)) {v : Value} {H' : Heap} (hv : oStrNx (ρ x) H = .val v H') : OpOK P σ N H w (execOp ρ' o) v H' := by
  unfold oStrNx at hv
  split at hv
  · rename_i r he
    rw [he] at hx
    obtain ⟨b, hx', hob⟩ := hx.iter_inv
    split at hv
    · rename_i s pos hg
      obtain ⟨b', o', q1, q2, q3, q4⟩ := h.objs r _ hg (by simp)
      rw [hob] at q1; cases q1
      cases q4
      have e5 : (getObj b).run P w = .ok (.stringIter s pos) w := by simp [getObj, Sem.run, q3]
      have e6 : ∀ q, (setObj b q).run P w = .ok () { w with heap := w.heap.setIfInBounds b q } := fun q => by simp [setObj, Sem.run, q3]
      cases hb : Nat.blt pos s.size with
      | true =>
        rw [hb, cond_true] at hv
        have hlt : pos < s.size := Nat.le_of_ble_eq_true hb
        cases hdc : Utf8.decode s pos with
        | mk c n =>
          rw [hdc] at hv
          cases hv
          obtain ⟨u1, u2⟩ := upd_sound h hg (by simp) (o2 := .iter s (pos + n)) (by simp) hob (.iter s (pos + n))
          refine ⟨σ, .tuple #[.bool true, goInt pos, .int .i32 c], _, .value (.tuple #[.bool true, goInt pos, .int .i32 c]), ?_, rfl, σ.le_refl, u1, .tuple_list (.cons (.bool _) (.cons (.int _ _) (.cons (.int _ _) .nil))), u2⟩
          simp [execOp, hop, hx', Instr.next, e5, e6, hlt, hdc]
      | false =>
        rw [hb, cond_false] at hv
        cases hv
        have hlt : ¬ pos < s.size := fun hc => by rw [Nat.blt, Nat.ble_eq_true_of_le hc] at hb; cases hb
        exact OpOK.still h (v' := .tuple #[.bool false]) (by simp [execOp, hop, hx', Instr.next, e5, hlt]) (.tuple_list (.cons (.bool _) .nil))
    · cases hv
  · cases hv

end
end Go.Abs
