/- A region whose order is drawn: every order comes to what the evaluator's comes to. -/
import Derived.Test.YtdlfikobjnjmaaaAbsOps3
namespace Go.Abs
set_option linter.unusedSectionVars false
variable [Globs]
open Go
set_option linter.unusedVariables false
set_option linter.unusedSimpArgs false

theorem Tr.set_comm {α : Type} : ∀ (f g : Nat) (t : Tr α) (n m : Nat) (v u : Option α), n ≠ m → Tr.set g (Tr.set f t n v) m u = Tr.set f (Tr.set g t m u) n v := by
  intro f
  induction f with
  | zero => intro g t n m v u h; rfl
  | succ f ih =>
    intro g t n m v u h
    cases g with
    | zero => rfl
    | succ g =>
      have nil_set : ∀ (k : Nat) (i : Nat) (x : Option α), Tr.set (k + 1) .nil i x = Tr.set (k + 1) (.node none .nil .nil) i x := fun k i x => rfl
      have main : ∀ (w : Option α) (l r : Tr α), Tr.set (g + 1) (Tr.set (f + 1) (.node w l r) n v) m u = Tr.set (f + 1) (Tr.set (g + 1) (.node w l r) m u) n v := by
        intro w l r
        cases hn0 : Nat.beq n 0 with
        | true =>
          have hn := Nat.eq_of_beq_eq_true hn0
          cases hm0 : Nat.beq m 0 with
          | true => exact absurd (hn.trans (Nat.eq_of_beq_eq_true hm0).symm) h
          | false => simp only [Tr.set, hn0, hm0, cond_true, cond_false]; cases Nat.beq (m % 2) 1 <;> simp only [Tr.set, hn0, hm0, cond_true, cond_false]
        | false =>
          cases hm0 : Nat.beq m 0 with
          | true => simp only [Tr.set, hn0, hm0, cond_true, cond_false]; cases hn1 : Nat.beq (n % 2) 1 <;> simp only [Tr.set, hn0, hm0, hn1, cond_true, cond_false]
          | false =>
            have n0 : n ≠ 0 := fun e => by subst e; cases hn0
            have m0 : m ≠ 0 := fun e => by subst e; cases hm0
            cases hn1 : Nat.beq (n % 2) 1 with
            | true =>
              have en := Nat.eq_of_beq_eq_true hn1
              cases hm1 : Nat.beq (m % 2) 1 with
              | true =>
                have em := Nat.eq_of_beq_eq_true hm1
                simp only [Tr.set, hn0, hm0, hn1, hm1, cond_true, cond_false]
                rw [ih g l (n / 2) (m / 2) v u (by omega)]
              | false => simp only [Tr.set, hn0, hm0, hn1, hm1, cond_true, cond_false]
            | false =>
              have en : n % 2 ≠ 1 := fun e => by rw [e] at hn1; cases hn1
              cases hm1 : Nat.beq (m % 2) 1 with
              | true => simp only [Tr.set, hn0, hm0, hn1, hm1, cond_true, cond_false]
              | false =>
                have em : m % 2 ≠ 1 := fun e => by rw [e] at hm1; cases hm1
                simp only [Tr.set, hn0, hm0, hn1, hm1, cond_true, cond_false]
                rw [ih g r (n / 2 - 1) (m / 2 - 1) v u (by omega)]
      cases t with
      | nil => rw [nil_set f, nil_set g]; exact main none .nil .nil
      | node w l r => exact main w l r

theorem Tr.put_comm {α : Type} (t : Tr α) {n m : Nat} (v u : α) (h : n ≠ m) : (t.put n v).put m u = (t.put m u).put n v := Tr.set_comm _ _ _ _ _ _ _ h

theorem looksA_false {d : Tmp} : ∀ {l : List Operand}, looksA d l = false → ∀ x ∈ l, x ≠ .tmp d
  | [], _, x, hx => by cases hx
  | y :: l, h, x, hx => by
    have hl : looksA d l = false := by
      cases y <;> simp only [looksA, Bool.or_eq_false_iff] at h <;> first | exact h.2 | exact h
    rcases List.mem_cons.1 hx with rfl | hx
    · intro e; subst e
      simp only [looksA, Bool.or_eq_false_iff] at h
      rw [Nat.beq_refl] at h; cases h.1
    · exact looksA_false hl x hx

theorem evalO_put {t : Tr Value} {d : Nat} {v : Value} {x : Operand} (h : x ≠ .tmp d) : evalO (t.put d v) x = evalO t x := by
  cases x with
  | tmp n =>
    have : n ≠ d := fun e => h (by rw [e])
    simp only [evalO, Tr.get_put, if_neg this]
  | _ => rfl

theorem map_ext {ρ ρ' : Operand → Value} {l : List Operand} (h : ∀ x ∈ l, ρ x = ρ' x) : l.map ρ = l.map ρ' := List.map_congr_left h

theorem parts_ext {ρ ρ' : Operand → Value} {l : List (Nat × Operand)} (h : ∀ x ∈ l.map (·.2), ρ x = ρ' x) : (l.map fun p => (p.1, ρ p.2)) = l.map fun p => (p.1, ρ' p.2) :=
  List.map_congr_left fun p hp => by rw [h p.2 (List.mem_map.2 ⟨p, hp, rfl⟩)]

theorem opt_ext {ρ ρ' : Operand → Value} {o : Option Operand} (h : ∀ x ∈ o.toList, ρ x = ρ' x) : o.map ρ = o.map ρ' := by
  cases o with
  | none => rfl
  | some x => simp [h x (by simp)]

theorem opA_congr {P : Program} {o : AOp} (hn : o.noSel = true) {ρ ρ' : Operand → Value} (H : Heap) (h : ∀ x ∈ o.opnds, ρ x = ρ' x) : opA P o ρ H = opA P o ρ' H := by
  cases o with
  | plain o =>
    have hs : ∀ cs b, o.op ≠ .select cs b := by
      intro cs b e
      simp only [AOp.noSel, e] at hn
      cases hn
    have he : execOp ρ o = execOp ρ' o := execOp_congr o hs fun x hx => h x (by simpa [AOp.opnds] using hx)
    have ha : (o.op.operands.toList.all fun x => plainV (ρ x)) = o.op.operands.toList.all fun x => plainV (ρ' x) := by
      have : ∀ l : List Operand, (∀ x ∈ l, ρ x = ρ' x) → (l.all fun x => plainV (ρ x)) = l.all fun x => plainV (ρ' x) := by
        intro l
        induction l with
        | nil => intro _; rfl
        | cons y l ih => intro hl; simp only [List.all_cons, hl y (by simp), ih (fun x hx => hl x (by simp [hx]))]
      exact this _ h
    simp only [opA, oPlain, he, ha]
  | mkM r =>
    cases r with
    | none => rfl
    | some y => simp only [opA, Option.map_some, h y (by simp [AOp.opnds])]
  | mkF f a b =>
    have h1 : a.map ρ = a.map ρ' := Array.map_congr_left fun x hx => h x (by simp [AOp.opnds, hx])
    have h2 : b.map ρ = b.map ρ' := Array.map_congr_left fun x hx => h x (by simp [AOp.opnds, hx])
    simp only [opA, h1, h2]
  | bldS e sz z n ps => simp only [opA, parts_ext (l := ps) h]
  | bldT z pl ps => simp only [opA, parts_ext (l := ps) h]
  | bldA z sz ps => simp only [opA, parts_ext (l := ps) h]
  | callF g args => simp only [opA, map_ext (l := args) h]
  | callV f args => simp only [opA, h f (by simp [AOp.opnds]), map_ext (l := args) (fun x hx => h x (by simp [AOp.opnds, hx]))]
  | inv tab y args => simp only [opA, h y (by simp [AOp.opnds]), map_ext (l := args) (fun x hx => h x (by simp [AOp.opnds, hx]))]
  | slA x n sz lo hi mx =>
    simp only [opA, h x (by simp [AOp.opnds]), opt_ext (o := lo) (fun x hx => h x (by simp only [AOp.opnds, List.mem_cons, List.mem_append]; exact .inr (.inl hx))),
      opt_ext (o := hi) (fun x hx => h x (by simp only [AOp.opnds, List.mem_cons, List.mem_append]; exact .inr (.inr (.inl hx)))),
      opt_ext (o := mx) (fun x hx => h x (by simp only [AOp.opnds, List.mem_cons, List.mem_append]; exact .inr (.inr (.inr hx))))]
  | slS x sz lo hi mx =>
    simp only [opA, h x (by simp [AOp.opnds]), opt_ext (o := lo) (fun x hx => h x (by simp only [AOp.opnds, List.mem_cons, List.mem_append]; exact .inr (.inl hx))),
      opt_ext (o := hi) (fun x hx => h x (by simp only [AOp.opnds, List.mem_cons, List.mem_append]; exact .inr (.inr (.inl hx)))),
      opt_ext (o := mx) (fun x hx => h x (by simp only [AOp.opnds, List.mem_cons, List.mem_append]; exact .inr (.inr (.inr hx))))]
  | _ => (simp only [AOp.opnds] at h; simp +contextual [opA, h])

/-! ### Operations that turn nothing -/

def Pure (g : Heap → ORes) : Prop := ∃ r, ∀ H, g H = asVal H r

theorem pure_asVal (r : Option Value) : Pure (fun H => asVal H r) := ⟨r, fun _ => rfl⟩

theorem pure_asPlain (r : Option Value) : Pure (fun H => asPlain H r) := by
  cases r with
  | none => exact ⟨none, fun _ => rfl⟩
  | some v =>
    cases hb : plainV v with
    | true => exact ⟨some v, fun H => by simp only [asPlain, hb, cond_true, asVal]⟩
    | false => exact ⟨none, fun H => by simp only [asPlain, hb, cond_false, asVal]⟩

theorem pure_bif {b : Bool} {g h : Heap → ORes} (hg : Pure g) (hh : Pure h) : Pure (fun H => bif b then g H else h H) := by cases b; exact hh; exact hg

theorem pure_val (v : Value) : Pure (fun H => .val v H) := ⟨some v, fun _ => rfl⟩
theorem pure_bad : Pure (fun _ => .bad) := ⟨none, fun _ => rfl⟩

theorem pure_oPick (c a b : Value) : Pure (oPick c a b) := by
  cases c with
  | bool t => cases t; exact pure_val b; exact pure_val a
  | _ => exact pure_bad

theorem pure_oNil (x : Value) : Pure (oNil x) := by
  cases x with
  | pointer a => cases a; exact pure_bad; exact pure_val _
  | complex k g o => exact pure_val _
  | func f a b => cases f <;> first | exact pure_bad | exact pure_val _
  | _ => exact pure_bad

theorem pure_oField (x : Value) (off : Nat) : Pure (oField x off) := by
  cases x with
  | pointer a => cases a; exact pure_bad; exact pure_val _
  | complex k g o => exact pure_val _
  | _ => exact pure_bad

theorem pure_oIdxA (x ix : Value) (n sz : Nat) : Pure (oIdxA x ix n sz) := by
  unfold oIdxA
  generalize natOf ix = k
  cases k with
  | none => exact pure_bad
  | some i =>
    cases x with
    | pointer a => cases a; exact pure_bad; exact pure_bif (pure_val _) pure_bad
    | complex k g o => exact pure_bif (pure_val _) pure_bad
    | _ => exact pure_bad

theorem pure_oIdxS (x ix : Value) (sz : Nat) : Pure (oIdxS x ix sz) := by
  unfold oIdxS
  generalize natOf ix = k
  cases k with
  | none => exact pure_bad
  | some i =>
    cases x with
    | slice a n c => cases a; exact pure_bad; exact pure_bif (pure_val _) pure_bad
    | _ => exact pure_bad

theorem pure_oSlA (x : Value) (n sz : Nat) (lo hi mx : Option Value) : Pure (oSlA x n sz lo hi mx) := by
  cases x with
  | pointer a => cases a; exact pure_bad; exact pure_asVal _
  | _ => exact pure_bad

theorem pure_oSlS (x : Value) (sz : Nat) (lo hi mx : Option Value) : Pure (oSlS x sz lo hi mx) := by
  cases x with
  | slice a n c => exact pure_asVal _
  | _ => exact pure_bad

theorem pure_oBld (cs : Option (Array Value)) : Pure (oBld cs) := by
  cases cs; exact pure_bad; exact pure_val _

theorem pure_oFld (x : Value) (off : Nat) (n : Option Nat) : Pure (oFld x off n) := by
  cases x with
  | agg cs => exact pure_asVal _
  | _ => exact pure_bad

theorem pure_oIdx (x ix : Value) (n sz : Nat) (ag : Bool) : Pure (oIdx x ix n sz ag) := by
  unfold oIdx
  generalize natOf ix = k
  cases k with
  | none => exact pure_bad
  | some i =>
    cases x with
    | agg cs => exact pure_bif (pure_asVal _) pure_bad
    | _ => exact pure_bad

theorem pure_oExt (x : Value) (k : Nat) : Pure (oExt x k) := by
  cases x with
  | tuple vs => exact pure_asVal _
  | _ => exact pure_bad

theorem pure_oIbin (P : Program) (op : BinOp) (k : IntKind) (x y : Value) : Pure (oIbin P op k x y) := by
  cases x with
  | int k1 a =>
    cases y with
    | int k2 b =>
      unfold oIbin
      refine pure_bif ?_ pure_bad
      cases ibinA op k a b with
      | some v => exact pure_val v
      | none => exact pure_asPlain _
    | _ => exact pure_bad
  | _ => exact pure_bad

theorem pure_oNilEq (neg : Bool) (kd : NilK) (x : Value) : Pure (oNilEq neg kd x) := by
  cases kd <;> cases x <;> first | exact pure_bad | exact pure_val _

theorem pure_oNot (x : Value) : Pure (oNot x) := by
  cases x <;> first | exact pure_bad | exact pure_val _

theorem pure_oCap (x : Value) : Pure (oCap x) := by
  cases x with
  | slice a n c => cases a; exact pure_val _; exact pure_bif (pure_val _) pure_bad
  | _ => exact pure_bad

theorem pure_oLen (x : Value) : Pure (oLen x) := by
  cases x <;> first | exact pure_bad | exact pure_val _

theorem pure_oTas (a : TypeId) (z x : Value) (ok : Bool) : Pure (oTas a z x ok) := by
  cases x with
  | iface t v => exact pure_bif (pure_val _) (pure_bif (pure_val _) pure_bad)
  | nilIface => exact pure_bif (pure_val _) pure_bad
  | _ => exact pure_bad

theorem pure_oTasI (tab : List (Nat × Bool)) (z x : Value) (ok : Bool) : Pure (oTasI tab z x ok) := by
  cases x with
  | iface t v =>
    unfold oTasI
    simp only
    cases findN t tab with
    | none => exact pure_bad
    | some b => cases b; exact pure_bif (pure_val _) pure_bad; exact pure_val _
  | nilIface => exact pure_bif (pure_val _) pure_bad
  | _ => exact pure_bad

theorem opA_pure {P : Program} {o : AOp} {ρ : Operand → Value} (he : effect o = false) (hr : reads o = false) : Pure (opA P o ρ) := by
  cases o with
  | move x => exact pure_val _
  | pick c a b => exact pure_oPick _ _ _
  | nilCheck x => exact pure_oNil _
  | fieldAddr x off => exact pure_oField _ _
  | idxA x ix n sz => exact pure_oIdxA _ _ _ _
  | idxS x ix sz => exact pure_oIdxS _ _ _
  | slA x n sz lo hi mx => exact pure_oSlA _ _ _ _ _ _
  | slS x sz lo hi mx => exact pure_oSlS _ _ _ _ _
  | bldT z pl ps => exact pure_oBld _
  | bldA z sz ps => exact pure_oBld _
  | fld x off n => exact pure_oFld _ _ _
  | idx x ix n sz ag => exact pure_oIdx _ _ _ _ _
  | ext x k => exact pure_oExt _ _
  | mkF f a b => exact pure_val _
  | mkI t x => exact pure_val _
  | ibin op k x y => exact pure_oIbin _ _ _ _ _
  | nilEq neg kd x => exact pure_oNilEq _ _ _
  | not x => exact pure_oNot _
  | plain o => exact pure_bif (pure_asPlain _) pure_bad
  | len x => exact pure_oLen _
  | cap x => exact pure_oCap _
  | tas a z x ok => exact pure_oTas _ _ _ _
  | tasI tab z x ok => exact pure_oTasI _ _ _ _
  | load1 x => cases hr
  | loadN x n => cases hr
  | _ => cases he

/-- What an operation that turns nothing comes to, from heap to heap. -/
theorem opA_still {P : Program} {o : AOp} {ρ : Operand → Value} (he : effect o = false) {H : Heap} : ∃ r, opA P o ρ H = asVal H r := by
  cases hr : reads o with
  | false => obtain ⟨r, h⟩ := opA_pure (P := P) (ρ := ρ) he hr; exact ⟨r, h H⟩
  | true =>
    cases o with
    | load1 x =>
      simp only [opA, oLoad1]
      split
      · exact ⟨_, rfl⟩
      · exact ⟨_, rfl⟩
      · exact ⟨none, rfl⟩
    | loadN x n =>
      simp only [opA, oLoadN]
      split
      · exact ⟨_, rfl⟩
      · exact ⟨_, rfl⟩
      · exact ⟨none, rfl⟩
    | _ => cases hr

theorem ba_eq {a b : ByteArray} (h : (a == b) = true) : a = b := by
  have h' : (a.data == b.data) = true := h
  exact ByteArray.ext (by simpa using h')

theorem same0_eq {v w : Value} (h : same0 v w = true) : v = w := by
  have addr : ∀ {a b : Addr}, sameAddrA a b = true → a = b := by
    intro a b h
    obtain ⟨a1, a2, a3⟩ := a
    obtain ⟨b1, b2, b3⟩ := b
    simp only [sameAddrA, Bool.and_eq_true] at h
    obtain ⟨⟨h1, h2⟩, h3⟩ := h
    have := Nat.eq_of_beq_eq_true h1
    have := Nat.eq_of_beq_eq_true h2
    subst_vars
    cases a3 <;> cases b3 <;> simp at h3 <;> first | rfl | (rw [h3])
  have int : ∀ {a b : Int}, sameInt a b = true → a = b := by
    intro a b h
    cases a <;> cases b <;> simp only [sameInt] at h <;> first | (rw [Nat.eq_of_beq_eq_true h]) | cases h
  unfold same0 at h
  split at h
  · rw [eq_of_beq h]
  · simp only [Bool.and_eq_true, decide_eq_true_eq] at h
    rw [h.1, int h.2]
  · rw [ba_eq h]
  · rfl
  · rw [addr h]
  · simp only [Bool.and_eq_true] at h
    rw [Nat.eq_of_beq_eq_true h.1, Nat.eq_of_beq_eq_true h.2]
  · simp only [Bool.and_eq_true] at h
    rw [addr h.1.1, Nat.eq_of_beq_eq_true h.1.2, Nat.eq_of_beq_eq_true h.2]
  · rfl
  · rfl
  · rfl
  · rw [Nat.eq_of_beq_eq_true h]
  · cases h

theorem sameL0_eq : ∀ {l r : List Value}, sameL0 l r = true → l = r
  | [], [], _ => rfl
  | a :: l, b :: r, h => by
    simp only [sameL0, Bool.and_eq_true] at h
    rw [same0_eq h.1, sameL0_eq h.2]
  | [], _ :: _, h => by cases h
  | _ :: _, [], h => by cases h

theorem same1_eq {v w : Value} (h : same1 v w = true) : v = w := by
  unfold same1 at h
  split at h
  · simp only [Bool.and_eq_true] at h
    rw [Nat.eq_of_beq_eq_true h.1.1, Array.ext' (sameL0_eq h.1.2), Array.ext' (sameL0_eq h.2)]
  · exact same0_eq h

theorem sameL_eq : ∀ {l r : List Value}, sameL l r = true → l = r
  | [], [], _ => rfl
  | a :: l, b :: r, h => by
    simp only [sameL, Bool.and_eq_true] at h
    rw [same1_eq h.1, sameL_eq h.2]
  | [], _ :: _, h => by cases h
  | _ :: _, [], h => by cases h

/-! ### Two operations change places -/

section
variable {C : Ctx} {ih : Req → Option Resp} {nt : Nat}

/-- What an operation comes to. -/
def Did (C : Ctx) (ih : Req → Option Resp) (o : POp) (t : Tr Value) (H : Heap) (v : Value) (H1 : Heap) : Prop :=
  (wantedA t o = true ∧ ans ih H (opA C.P o.op (evalO t) H) = some (.val v H1)) ∨ (wantedA t o = false ∧ v = undef ∧ H1 = H)

theorem doOp_some {o : POp} {s s1 : St} : doOp C ih nt o s = some s1 ↔ ∃ v, Did C ih o s.t s.H v s1.H ∧ putT nt s.t o.dst v = some s1.t ∧ s1.d = s.d := by
  unfold doOp Did
  constructor
  · intro h
    cases hw : wantedA s.t o with
    | true =>
      rw [hw, cond_true] at h
      cases ha : ans ih s.H (opA C.P o.op (evalO s.t) s.H) with
      | none => rw [ha] at h; cases h
      | some r =>
        rw [ha] at h
        cases r with
        | code e s2 => cases h
        | val v H =>
          simp only [afterOp] at h
          cases hp : putT nt s.t o.dst v with
          | none => rw [hp] at h; cases h
          | some t => rw [hp] at h; cases h; exact ⟨v, .inl ⟨rfl, rfl⟩, hp, rfl⟩
    | false =>
      rw [hw, cond_false] at h
      cases hp : putT nt s.t o.dst undef with
      | none => rw [hp] at h; cases h
      | some t => rw [hp] at h; cases h; exact ⟨undef, .inr ⟨rfl, rfl, rfl⟩, hp, rfl⟩
  · rintro ⟨v, ⟨hw, ha⟩ | ⟨hw, rfl, hH⟩, hp, hd⟩
    · rw [hw, cond_true, ha]
      simp only [afterOp, hp, stOf, ← hd]
    · rw [hw, cond_false, hp]
      simp only [stOf, ← hd, ← hH]

theorem Did.still {o : POp} {t : Tr Value} {H H1 : Heap} {v : Value} (he : effect o.op = false) (h : Did C ih o t H v H1) : H1 = H := by
  rcases h with ⟨hw, ha⟩ | ⟨hw, _, hH⟩
  · obtain ⟨r, hr⟩ := opA_still (P := C.P) (ρ := evalO t) he (H := H)
    rw [hr] at ha
    cases r with
    | none => cases ha
    | some x => simp only [asVal, ans, Option.some.injEq, Resp.val.injEq] at ha; exact ha.2.symm
  · exact hH

theorem putT_comm {t t1 t2 : Tr Value} {d e : Option Tmp} {v u : Value} (h1 : putT nt t d v = some t1) (h2 : putT nt t1 e u = some t2) (hne : ∀ x, d = some x → e ≠ some x) :
    ∃ t1', putT nt t e u = some t1' ∧ putT nt t1' d v = some t2 := by
  cases d with
  | none => simp only [putT, Option.some.injEq] at h1; subst h1; exact ⟨t2, h2, rfl⟩
  | some x =>
    cases e with
    | none => simp only [putT, Option.some.injEq] at h2; subst h2; exact ⟨t, rfl, h1⟩
    | some y =>
      simp only [putT] at h1 h2 ⊢
      obtain ⟨b1, h1⟩ := bif_some h1
      obtain ⟨b2, h2⟩ := bif_some h2
      cases h1; cases h2
      have : x ≠ y := fun e => hne x rfl (by rw [e])
      exact ⟨t.put y u, by rw [b2]; rfl, by rw [b1, cond_true, Tr.put_comm t v u this]⟩

theorem putT_eval {t t1 : Tr Value} {d : Option Tmp} {v : Value} (h : putT nt t d v = some t1) {x : Operand} (hx : ∀ e, d = some e → x ≠ .tmp e) : evalO t1 x = evalO t x := by
  cases d with
  | none => simp only [putT, Option.some.injEq] at h; rw [h]
  | some e =>
    simp only [putT] at h
    obtain ⟨_, h⟩ := bif_some h
    cases h
    exact evalO_put (hx e rfl)

theorem putT_at {t t1 : Tr Value} {d : Tmp} {v : Value} (h : putT nt t (some d) v = some t1) : evalO t1 (.tmp d) = v := by
  simp only [putT] at h
  obtain ⟨_, h⟩ := bif_some h
  cases h
  simp only [evalO, Tr.get_put, if_true]

theorem putT_wanted {t t1 : Tr Value} {d : Option Tmp} {v : Value} (h : putT nt t d v = some t1) {o : POp} (hx : ∀ e, d = some e → o.looks e = false) : wantedA t1 o = wantedA t o := by
  unfold wantedA
  cases hg : o.guard with
  | none => rfl
  | some p =>
    obtain ⟨g, want⟩ := p
    simp only
    have hget : t1.get g = t.get g := by
      cases d with
      | none => simp only [putT, Option.some.injEq] at h; rw [h]
      | some e =>
        have hl := hx e rfl
        simp only [POp.looks, hg, Bool.or_eq_false_iff] at hl
        simp only [putT] at h
        obtain ⟨_, h⟩ := bif_some h
        cases h
        rw [Tr.get_put, if_neg]
        intro e2; subst e2
        rw [Nat.beq_refl] at hl; cases hl.2
    rw [hget]

theorem looks_opnds {o : POp} {d : Tmp} (h : o.looks d = false) : ∀ x ∈ o.op.opnds, x ≠ .tmp d := by
  simp only [POp.looks, Bool.or_eq_false_iff] at h
  exact looksA_false h.1

theorem noteRd_app (o : POp) (s s' : St) (rs : List Rd) : noteRd o s s' rs = noteRd o s s' [] ++ rs := by
  unfold noteRd
  cases wantedA s.t o with
  | false => rfl
  | true =>
    simp only [cond_true]
    split
    · split <;> rfl
    · split <;> rfl
    · rfl

theorem noteRd_congr {o : POp} {s s' q q' : St} (hw : wantedA s.t o = wantedA q.t o) (he : ∀ x ∈ o.op.opnds, evalO s.t x = evalO q.t x) (hd : ∀ d, o.dst = some d → evalO s'.t (.tmp d) = evalO q'.t (.tmp d)) (rs : List Rd) :
    noteRd o s s' rs = noteRd o q q' rs := by
  unfold noteRd
  rw [hw]
  cases ho : o.op with
  | load1 x =>
    have hx := he x (by rw [ho]; simp [AOp.opnds])
    cases hdd : o.dst with
    | none => rfl
    | some d => simp only [hx, hd d hdd]
  | loadN x n =>
    have hx := he x (by rw [ho]; simp [AOp.opnds])
    cases hdd : o.dst with
    | none => rfl
    | some d => simp only [hx, hd d hdd]
  | _ => rfl

theorem stands_mono {H : Heap} {l : List Nat} {rs rs' : List Rd} (h : ∀ r ∈ rs', r ∈ rs) (hs : stands H l rs = true) : stands H l rs' = true := by
  unfold stands at *
  rw [List.all_eq_true] at *
  exact fun r hr => hs r (h r hr)

theorem stepOpsD_mono : ∀ (l : List POp) (rs rs' : List Rd) (s s' : St), (∀ r ∈ rs', r ∈ rs) → stepOpsD C ih nt l rs s = some s' → stepOpsD C ih nt l rs' s = some s'
  | [], rs, rs', s, s', h, hs => hs
  | o :: l, rs, rs', s, s', h, hs => by
    simp only [stepOpsD] at hs ⊢
    split at hs
    · rename_i s1 hs1
      obtain ⟨hb, hs⟩ := bif_some hs
      rw [stands_mono h hb, cond_true]
      refine stepOpsD_mono l _ _ s1 s' (fun r hr => ?_) hs
      rw [noteRd_app, List.mem_append] at hr ⊢
      exact hr.imp id (h r)
    · cases hs

theorem stepOpsD_cons {o : POp} {l : List POp} {rs : List Rd} {s s' : St} : stepOpsD C ih nt (o :: l) rs s = some s' ↔ ∃ s1, doOp C ih nt o s = some s1 ∧ stands s1.H o.loose rs = true ∧ stepOpsD C ih nt l (noteRd o s s1 rs) s1 = some s' := by
  simp only [stepOpsD]
  constructor
  · intro h
    split at h
    · rename_i s1 hs1
      obtain ⟨hb, hs⟩ := bif_some h
      exact ⟨s1, hs1, hb, hs⟩
    · cases h
  · rintro ⟨s1, h1, h2, h3⟩
    rw [h1]
    simp only
    rw [h2, cond_true]; exact h3

theorem swap {j i : POp} {rest : List POp} {rs : List Rd} {s s' : St} (hf : freeA j i = true) (h : stepOpsD C ih nt (j :: i :: rest) rs s = some s') : stepOpsD C ih nt (i :: j :: rest) rs s = some s' := by
  simp only [freeA, Bool.and_eq_true, Bool.not_eq_true', Bool.or_eq_true] at hf
  obtain ⟨⟨⟨⟨⟨hej, hlj⟩, hnj⟩, hni⟩, hap⟩, hld⟩ := hf
  simp only [apartA, Bool.and_eq_true] at hap
  obtain ⟨ha1, ha2⟩ := hap
  have hji : ∀ d, j.dst = some d → i.looks d = false := fun d hd => by
    rw [hd] at ha1; simp only [Bool.and_eq_true, Bool.not_eq_true'] at ha1; exact ha1.1
  have hdd : ∀ d, j.dst = some d → i.dst ≠ some d := fun d hd he => by
    rw [hd, he] at ha1; simp only [Bool.and_eq_true, Bool.not_eq_true', Nat.beq_refl] at ha1; cases ha1.2
  have hij : ∀ d, i.dst = some d → j.looks d = false := fun d hd => by
    rw [hd] at ha2; simp only [Bool.not_eq_true'] at ha2; exact ha2
  obtain ⟨s1, hs1, hst1, h⟩ := stepOpsD_cons.1 h
  obtain ⟨s2, hs2, hst2, h⟩ := stepOpsD_cons.1 h
  obtain ⟨vj, dj, pj, dd1⟩ := doOp_some.1 hs1
  obtain ⟨vi, di, pi, dd2⟩ := doOp_some.1 hs2
  have hH1 : s1.H = s.H := dj.still hej
  -- i from s
  have wi : wantedA s1.t i = wantedA s.t i := putT_wanted pj hji
  have ei : ∀ x ∈ i.op.opnds, evalO s1.t x = evalO s.t x := fun x hx => putT_eval pj fun e he => looks_opnds (hji e he) x hx
  obtain ⟨t1, pi', pj'⟩ := putT_comm pj pi hdd
  have di' : Did C ih i s.t s.H vi s2.H := by
    unfold Did at di ⊢
    rw [wi, opA_congr hni s1.H ei, hH1] at di
    exact di
  have hi1 : doOp C ih nt i s = some { t := t1, d := s.d, H := s2.H } := doOp_some.2 ⟨vi, di', pi', rfl⟩
  -- j behind it
  have wj : wantedA t1 j = wantedA s.t j := putT_wanted pi' hij
  have ej : ∀ x ∈ j.op.opnds, evalO t1 x = evalO s.t x := fun x hx => putT_eval pi' fun e he => looks_opnds (hij e he) x hx
  have dj' : Did C ih j t1 s2.H vj s2.H := by
    unfold Did
    rw [wj, opA_congr hnj s2.H ej]
    rcases dj with ⟨hw, ha⟩ | ⟨hw, hv, hH⟩
    · refine .inl ⟨hw, ?_⟩
      cases hr : reads j.op with
      | false =>
        obtain ⟨r, hr⟩ := opA_pure (P := C.P) (ρ := evalO s.t) hej hr
        rw [hr] at ha ⊢
        cases r with
        | none => cases ha
        | some x => simp only [asVal, ans, Option.some.injEq, Resp.val.injEq] at ha ⊢; exact ⟨ha.1, trivial⟩
      | true =>
        cases hei : effect i.op with
        | false =>
          have hH2 : s2.H = s.H := (di.still hei).trans hH1
          rw [hH2, ← hH1]
          rw [hH1] at ha ⊢
          exact ha
        | true =>
          rw [hr, hei] at hld
          simp only [Bool.true_eq_false, false_or, Bool.and_eq_true] at hld
          obtain ⟨hsome, hcont⟩ := hld
          cases hdst : j.dst with
          | none => rw [hdst] at hsome; cases hsome
          | some d =>
            have hval : evalO s1.t (.tmp d) = vj := putT_at (hdst ▸ pj)
            have hho : ∀ a n, (⟨j.i, a, n, vj⟩ : Rd) ∈ noteRd j s s1 rs → holds s2.H ⟨j.i, a, n, vj⟩ = true := by
              intro a n hm
              unfold stands at hst2
              rw [List.all_eq_true] at hst2
              have := hst2 _ hm
              simp only [hcont, Bool.not_true, Bool.false_or] at this
              exact this
            cases hop : j.op with
            | load1 x =>
              rw [hop] at ha
              simp only [opA, oLoad1] at ha ⊢
              split at ha
              · rename_i a hx
                have hm : (⟨j.i, a, none, vj⟩ : Rd) ∈ noteRd j s s1 rs := by
                  simp only [noteRd, hw, hop, hdst, hx, cond_true, hval]; exact List.mem_cons_self
                have := hho a none hm
                simp only [holds] at this
                split at this
                · rename_i v2 hv2
                  rw [hv2, same1_eq this]; rfl
                · cases this
              · rename_i k g off hx
                cases hg : gRead g off with
                | none => rw [hg] at ha; cases ha
                | some x2 => rw [hg] at ha; simp only [asVal, ans, Option.some.injEq, Resp.val.injEq] at ha ⊢; exact ⟨ha.1, trivial⟩
              · cases ha
            | loadN x n =>
              rw [hop] at ha
              simp only [opA, oLoadN] at ha ⊢
              split at ha
              · rename_i a hx
                have hm : (⟨j.i, a, some n, vj⟩ : Rd) ∈ noteRd j s s1 rs := by
                  simp only [noteRd, hw, hop, hdst, hx, cond_true, hval]; exact List.mem_cons_self
                have := hho a (some n) hm
                simp only [holds] at this
                split at this
                · rename_i l cs hl
                  rw [hl, sameL_eq this]; simp [aggOf, asVal, ans]
                · cases this
              · rename_i k g off hx
                cases hg : gReadN g off n with
                | none => rw [hg] at ha; cases ha
                | some x2 => rw [hg] at ha; simp only [aggOf, asVal, ans, Option.some.injEq, Resp.val.injEq] at ha ⊢; exact ⟨ha.1, trivial⟩
              · cases ha
            | _ => rw [hop] at hr; cases hr
    · exact .inr ⟨hw, hv, rfl⟩
  have hj2 : doOp C ih nt j { t := t1, d := s.d, H := s2.H } = some s2 := doOp_some.2 ⟨vj, dj', pj', by rw [dd2, dd1]⟩
  refine stepOpsD_cons.2 ⟨_, hi1, stands_mono (fun r hr => by rw [noteRd_app]; exact List.mem_append_right _ hr) hst2, stepOpsD_cons.2 ⟨s2, hj2, ?_, ?_⟩⟩
  · have : j.loose = [] := by simpa using hlj
    rw [this]; unfold stands; simp
  · refine stepOpsD_mono rest _ _ s2 s' (fun r hr => ?_) h
    have e1 : noteRd j { t := t1, d := s.d, H := s2.H } s2 [] = noteRd j s s1 [] := noteRd_congr wj ej (fun d hd => (putT_at (hd ▸ pj')).trans (putT_at (hd ▸ pj)).symm) []
    have e2 : noteRd i s { t := t1, d := s.d, H := s2.H } [] = noteRd i s1 s2 [] := noteRd_congr wi.symm (fun x hx => (ei x hx).symm) (fun d hd => (putT_at (hd ▸ pi')).trans (putT_at (hd ▸ pi)).symm) []
    rw [noteRd_app, noteRd_app i, e1, e2] at hr
    rw [noteRd_app, noteRd_app j]
    simp only [List.mem_append] at hr ⊢
    rcases hr with h1 | h1 | h1
    · exact .inr (.inl h1)
    · exact .inl h1
    · exact .inr (.inr h1)

theorem bubble {i : POp} {rest : List POp} : ∀ (l : List POp) (rs : List Rd) (s s' : St), (∀ j ∈ l, freeA j i = true) → stepOpsD C ih nt (l ++ i :: rest) rs s = some s' → stepOpsD C ih nt (i :: (l ++ rest)) rs s = some s'
  | [], rs, s, s', _, h => h
  | j :: l, rs, s, s', hl, h => by
    obtain ⟨s1, h1, h2, h3⟩ := stepOpsD_cons.1 (show stepOpsD C ih nt (j :: (l ++ i :: rest)) rs s = some s' from h)
    exact swap (hl j (by simp)) (stepOpsD_cons.2 ⟨s1, h1, h2, bubble l _ s1 s' (fun k hk => hl k (by simp [hk])) h3⟩)

/-! ### The orders that are drawn -/

theorem foldl_inv {α β : Type} {p : β → Prop} {f : β → α → β} : ∀ (l : List α) (b : β), p b → (∀ b a, a ∈ l → p b → p (f b a)) → p (l.foldl f b)
  | [], b, h, _ => h
  | x :: l, b, h, hs => foldl_inv l (f b x) (hs b x (by simp) h) (fun b a ha => hs b a (by simp [ha]))

theorem closeDeps_in {deps : List (List Nat)} {D : Nat → Prop} (hD : ∀ k, D k → ∀ d ∈ deps.getD k [], D d) : ∀ (f : Nat) (l : List Nat), (∀ x ∈ l, D x) → ∀ x ∈ closeDeps deps f l, D x
  | 0, l, h => h
  | f + 1, l, h => by
    simp only [closeDeps]
    apply closeDeps_in hD f
    refine foldl_inv (p := fun acc => ∀ x ∈ acc, D x) l l h (fun acc j hj hacc => ?_)
    refine foldl_inv (p := fun acc => ∀ x ∈ acc, D x) (deps.getD j []) acc hacc (fun acc k hk hacc => ?_)
    cases acc.contains k with
    | true => exact hacc
    | false =>
      intro x hx
      rcases List.mem_cons.1 hx with rfl | hx
      · exact hD j (h j hj) x hk
      · exact hacc x hx

def depsL (ops : Array Oper) : List (List Nat) := ops.toList.map depsOf
def closedL (ops : Array Oper) : List (List Nat) := (depsL ops).map (closeDeps (depsL ops) ops.size)

theorem depsL_at {ops : Array Oper} {j : Nat} {o : Oper} (h : ops[j]? = some o) : (depsL ops).getD j [] = depsOf o := by
  rw [List.getD_eq_getElem?_getD, depsL, List.getElem?_map, Array.getElem?_toList, h]; rfl

theorem closedL_in {ops : Array Oper} {D : Nat → Prop} (hD : ∀ k, D k → ∀ d ∈ (depsL ops).getD k [], D d) {j : Nat} (hj : ∀ d ∈ (depsL ops).getD j [], D d) : ∀ x ∈ (closedL ops).getD j [], D x := by
  intro x hx
  rw [List.getD_eq_getElem?_getD, closedL, List.getElem?_map] at hx
  rw [List.getD_eq_getElem?_getD] at hj
  cases hd : (depsL ops)[j]? with
  | none => rw [hd] at hx; cases hx
  | some l => rw [hd] at hx hj; exact closeDeps_in hD _ _ hj x hx

theorem ready_iff {ops : Array Oper} {listed : Array Bool} {j : Nat} (hj : j < ops.size) : j ∈ Region.ready .any ops listed ↔ listed.getD j true = false ∧ ∀ d ∈ (depsL ops).getD j [], listed.getD d false = true := by
  rw [mem_ready]
  have ho : ops[j]? = some ops[j] := Array.getElem?_eq_getElem hj
  rw [depsL_at ho]
  constructor
  · rintro ⟨h0, o, ho', h⟩
    rw [ho] at ho'; cases ho'
    refine ⟨h0, fun d hd => ?_⟩
    obtain ⟨e, he, hde⟩ := List.mem_filterMap.1 hd
    obtain ⟨hb, hde⟩ := bif_some hde
    cases hde
    exact h e (by simpa using he) hb
  · rintro ⟨h0, h⟩
    refine ⟨h0, _, ho, fun e he hb => h _ (List.mem_filterMap.2 ⟨e, by simpa using he, by rw [hb]; rfl⟩)⟩

/-- A region's operations that are left: those that are not listed yet, and those that the model has carried out before the evaluator (they lie in a block). -/
abbrev CL := List (POp × Option Nat)

structure Sch (P : Program) (ops : Array Oper) (lt : List Nat) (listed : Array Bool) (c : CL) : Prop where
  prep : ∀ p ∈ c, ∃ o, ops[p.1.i]? = some o ∧ p.1.op = prepOpN P o ∧ prepGuard ops o = some p.1.guard ∧ p.1.dst = o.dst
  un : ∀ j, j < ops.size → (listed.getD j true = false ↔ ∃ p ∈ c, p.2 = none ∧ p.1.i = j)
  pend : ∀ p ∈ c, p.2 ≠ none → lt.contains p.1.i = true
  late : ∀ p ∈ c, lt.contains p.1.i = true → p.1.canLate = true
  ord : c.Pairwise (fun x y => y.1.i ≠ x.1.i ∧ y.1.i ∉ (depsL ops).getD x.1.i [] ∧ pairOK (closedL ops) lt x.1 y.1 = true)
  irr : ∀ x ∈ c, x.1.i ∉ (depsL ops).getD x.1.i []
  from_ : ∀ x ∈ c, x.2 = none → ∀ d ∈ (depsL ops).getD x.1.i [], listed.getD d false = true ∨ ∃ y ∈ c, y.2 = none ∧ y.1.i = d
  down : ∀ k, listed.getD k false = true → ∀ d ∈ (depsL ops).getD k [], listed.getD d false = true
  size : listed.size = ops.size

theorem getD_set_same {listed : Array Bool} {i : Nat} (h : i < listed.size) (d : Bool) : (listed.setIfInBounds i true).getD i d = true := by simp [h]

theorem getD_or {listed : Array Bool} {j : Nat} (h : j < listed.size) (d e : Bool) : listed.getD j d = listed.getD j e := by simp [h]

section
variable {P : Program} {ops : Array Oper} {lt : List Nat} {listed : Array Bool}

theorem Sch.lt_ {c : CL} (h : Sch P ops lt listed c) {p : POp × Option Nat} (hp : p ∈ c) : p.1.i < ops.size := by
  obtain ⟨o, ho, _⟩ := h.prep p hp
  exact (Array.getElem?_eq_some_iff.1 ho).1

/-- What is listed, is listed with all that it waits for. -/
theorem Sch.closed {c : CL} (h : Sch P ops lt listed c) {k : Nat} (hk : listed.getD k false = true) : ∀ x ∈ (closedL ops).getD k [], listed.getD x false = true :=
  closedL_in (D := fun k => listed.getD k false = true) h.down (h.down k hk)

theorem Sch.listed_no {c : CL} (h : Sch P ops lt listed c) {p : POp × Option Nat} (hp : p ∈ c) (hn : p.2 = none) : listed.getD p.1.i false = false := by
  have := (h.un p.1.i (h.lt_ hp)).2 ⟨p, hp, hn, rfl⟩
  rw [getD_or (e := true) (by rw [h.size]; exact h.lt_ hp)]; exact this

theorem pairwise_unique {c : CL} (h : c.Pairwise (fun x y => y.1.i ≠ x.1.i)) {p q : POp × Option Nat} (hp : p ∈ c) (hq : q ∈ c) (he : p.1.i = q.1.i) : p = q := by
  induction c with
  | nil => cases hp
  | cons a l ih =>
    obtain ⟨h1, h2⟩ := List.pairwise_cons.1 h
    rcases List.mem_cons.1 hp with hp' | hp'
    · rcases List.mem_cons.1 hq with hq' | hq'
      · rw [hp', hq']
      · subst hp'; exact absurd he.symm (h1 q hq')
    · rcases List.mem_cons.1 hq with hq' | hq'
      · subst hq'; exact absurd he (h1 p hp')
      · exact ih h2 hp' hq'

theorem Sch.listed_yes {c : CL} (h : Sch P ops lt listed c) {p : POp × Option Nat} (hp : p ∈ c) (hn : p.2 ≠ none) : listed.getD p.1.i false = true := by
  cases hb : listed.getD p.1.i false with
  | true => rfl
  | false =>
    rw [getD_or (e := true) (by rw [h.size]; exact h.lt_ hp)] at hb
    obtain ⟨q, hq, h2, h3⟩ := (h.un p.1.i (h.lt_ hp)).1 hb
    have := pairwise_unique (h.ord.imp (fun h => h.1)) hq hp h3
    subst this
    exact absurd h2 hn

def Apart (x y : POp) : Prop := (∀ d, x.dst = some d → y.looks d = false ∧ y.dst ≠ some d) ∧ (∀ d, y.dst = some d → x.looks d = false)

theorem apart_of {x y : POp} (h : apartA x y = true) : Apart x y := by
  simp only [apartA, Bool.and_eq_true] at h
  obtain ⟨h1, h2⟩ := h
  refine ⟨fun d hd => ?_, fun d hd => ?_⟩
  · rw [hd] at h1
    simp only [Bool.and_eq_true, Bool.not_eq_true'] at h1
    refine ⟨h1.1, fun he => ?_⟩
    rw [he] at h1
    simp at h1
  · rw [hd] at h2
    simpa using h2

theorem free_apart {x y : POp} (h : freeA x y = true) : Apart x y := by
  simp only [freeA, Bool.and_eq_true] at h
  exact apart_of h.1.2

theorem free_still {x y : POp} (h : freeA x y = true) : effect x.op = false := by
  simp only [freeA, Bool.and_eq_true, Bool.not_eq_true'] at h
  exact h.1.1.1.1.1

theorem late_effect {x : POp} (h : x.canLate = true) : effect x.op = true := by
  simp only [POp.canLate, Bool.and_eq_true] at h
  have := h.1.1
  cases hx : x.op <;> rw [hx] at this <;> first | rfl | cases this

/-- One that is not late, behind one that is not listed. -/
theorem Sch.free {c1 c2 : CL} {y : POp} (h : Sch P ops lt listed (c1 ++ (y, none) :: c2)) (hr : y.i ∈ Region.ready .any ops listed) (hl : lt.contains y.i = false) :
    ∀ x ∈ c1, x.2 = none → freeA x.1 y = true := by
  intro x hx hn
  have hy : (y, none) ∈ c1 ++ (y, none) :: c2 := by simp
  have hlt := h.lt_ hy
  have ho := (List.pairwise_append.1 h.ord).2.2 x hx (y, none) (by simp)
  have hp := ho.2.2
  simp only [pairOK, hl, Bool.and_false, cond_false, Bool.false_and, Bool.or_false, Bool.or_eq_true] at hp
  refine hp.resolve_left fun hc => ?_
  have hD := closedL_in (D := fun k => listed.getD k false = true) h.down ((ready_iff hlt).1 hr).2 x.1.i (List.contains_iff_mem.1 hc)
  rw [h.listed_no (by simp [hx]) hn] at hD
  cases hD

/-- One that lies in a block, behind one that is not listed and turns nothing. -/
theorem Sch.free_pend {c : CL} (h : Sch P ops lt listed c) {j x : POp × Option Nat} (hj : j ∈ c) (hx : x ∈ c) (hjn : j.2 = none) (hxn : x.2 ≠ none) (he : effect j.1.op = false) (hp : pairOK (closedL ops) lt j.1 x.1 = true) : freeA j.1 x.1 = true := by
  have hlx := h.pend x hx hxn
  have hlj : lt.contains j.1.i = false := by
    cases hb : lt.contains j.1.i with
    | false => rfl
    | true => have := late_effect (h.late j hj hb); rw [he] at this; cases this
  simp only [pairOK, hlj, Bool.false_and, cond_false, he, Bool.and_false, Bool.or_false, Bool.or_eq_true] at hp
  refine hp.resolve_left fun hc => ?_
  have := h.closed (h.listed_yes hx hxn) j.1.i (List.contains_iff_mem.1 hc)
  rw [h.listed_no hj hjn] at this
  cases this

/-- One that is not listed, before one that lies in a block. -/
theorem Sch.apart_behind {c : CL} (h : Sch P ops lt listed c) {z x : POp × Option Nat} (hz : z ∈ c) (hx : x ∈ c) (hzn : z.2 = none) (hxn : x.2 ≠ none) (hp : pairOK (closedL ops) lt z.1 x.1 = true) : Apart z.1 x.1 := by
  unfold pairOK at hp
  cases hb : (lt.contains z.1.i && lt.contains x.1.i) with
  | true => rw [hb, cond_true] at hp; exact apart_of hp
  | false =>
    rw [hb, cond_false] at hp
    simp only [Bool.or_eq_true, Bool.and_eq_true] at hp
    rcases hp with (hc | hf) | hl
    · have := h.closed (h.listed_yes hx hxn) z.1.i (List.contains_iff_mem.1 hc)
      rw [h.listed_no hz hzn] at this
      cases this
    · exact free_apart hf
    · exact apart_of hl.2

theorem pair_late {lt : List Nat} {closed : List (List Nat)} {x y : POp} (hx : lt.contains x.i = true) (hy : lt.contains y.i = true) (hp : pairOK closed lt x y = true) : Apart x y := by
  simp only [pairOK, hx, hy, Bool.and_self, cond_true] at hp
  exact apart_of hp

/-- One less that lies in a block. -/
theorem Sch.flush {c1 c2 : CL} {x : POp × Option Nat} (h : Sch P ops lt listed (c1 ++ x :: c2)) (hx : x.2 ≠ none) : Sch P ops lt listed (c1 ++ c2) := by
  have hsub : ∀ y ∈ c1 ++ c2, y ∈ c1 ++ x :: c2 := fun y hy => by
    simp only [List.mem_append, List.mem_cons] at hy ⊢
    exact hy.imp id .inr
  have hback : ∀ y ∈ c1 ++ x :: c2, y.2 = none → y ∈ c1 ++ c2 := fun y hy hn => by
    simp only [List.mem_append, List.mem_cons] at hy ⊢
    rcases hy with h1 | rfl | h1
    · exact .inl h1
    · exact absurd hn hx
    · exact .inr h1
  have hsl : (c1 ++ c2).Sublist (c1 ++ x :: c2) := List.Sublist.append (List.Sublist.refl _) (List.sublist_cons_self _ _)
  refine ⟨fun y hy => h.prep y (hsub y hy), fun j hj => ?_, fun y hy => h.pend y (hsub y hy), fun y hy => h.late y (hsub y hy), h.ord.sublist hsl, fun y hy => h.irr y (hsub y hy), fun y hy hn d hd => ?_, h.down, h.size⟩
  · rw [h.un j hj]
    constructor
    · rintro ⟨y, hy, hn, he⟩; exact ⟨y, hback y hy hn, hn, he⟩
    · rintro ⟨y, hy, hn, he⟩; exact ⟨y, hsub y hy, hn, he⟩
  · rcases h.from_ y (hsub y hy) hn d hd with h1 | ⟨q, hq, hqn, he⟩
    · exact .inl h1
    · exact .inr ⟨q, hback q hq hqn, hqn, he⟩

theorem listed_down {c : CL} (h : Sch P ops lt listed c) {i : Nat} (hlt : i < ops.size) (hr : i ∈ Region.ready .any ops listed) : ∀ k, (listed.setIfInBounds i true).getD k false = true → ∀ d ∈ (depsL ops).getD k [], (listed.setIfInBounds i true).getD d false = true := by
  intro k hk d hd
  have mono : ∀ d, listed.getD d false = true → (listed.setIfInBounds i true).getD d false = true := fun d hd => getD_set_true hd
  by_cases hk2 : k = i
  · subst hk2
    exact mono d (((ready_iff hlt).1 hr).2 d hd)
  · rw [getD_set_ne false (fun e => hk2 e.symm)] at hk
    exact mono d (h.down k hk d hd)

/-- One is listed, and done. -/
theorem Sch.next {c1 c2 : CL} {y : POp} (h : Sch P ops lt listed (c1 ++ (y, none) :: c2)) (hr : y.i ∈ Region.ready .any ops listed) : Sch P ops lt (listed.setIfInBounds y.i true) (c1 ++ c2) := by
  have hy : (y, none) ∈ c1 ++ (y, none) :: c2 := by simp
  have hsub : ∀ x ∈ c1 ++ c2, x ∈ c1 ++ (y, none) :: c2 := fun x hx => by
    simp only [List.mem_append, List.mem_cons] at hx ⊢
    exact hx.imp id .inr
  have hlt : y.i < ops.size := h.lt_ hy
  have hsl : (c1 ++ c2).Sublist (c1 ++ (y, none) :: c2) := List.Sublist.append (List.Sublist.refl _) (List.sublist_cons_self _ _)
  have hne : ∀ x ∈ c1 ++ c2, x.1.i ≠ y.i := by
    intro x hx
    have ho := List.pairwise_append.1 h.ord
    rcases List.mem_append.1 hx with h1 | h1
    · exact fun e => (ho.2.2 x h1 (y, none) (by simp)).1 e.symm
    · exact ((List.pairwise_cons.1 ho.2.1).1 x h1).1
  have mono : ∀ d, listed.getD d false = true → (listed.setIfInBounds y.i true).getD d false = true := fun d hd => getD_set_true hd
  have hself : (listed.setIfInBounds y.i true).getD y.i false = true := getD_set_same (by rw [h.size]; exact hlt) false
  refine ⟨fun x hx => h.prep x (hsub x hx), fun j hj => ?_, fun x hx => h.pend x (hsub x hx), fun x hx => h.late x (hsub x hx), h.ord.sublist hsl, fun x hx => h.irr x (hsub x hx), fun x hx hn d hd => ?_, listed_down h hlt hr, by rw [Array.size_setIfInBounds]; exact h.size⟩
  · by_cases hjy : j = y.i
    · subst hjy
      constructor
      · intro h0
        rw [getD_or (e := false) (by rw [Array.size_setIfInBounds, h.size]; exact hlt), hself] at h0; cases h0
      · rintro ⟨x, hx, _, he⟩
        exact absurd he (hne x hx)
    · rw [getD_set_ne true (fun e => hjy e.symm), h.un j hj]
      constructor
      · rintro ⟨x, hx, hn, he⟩
        refine ⟨x, ?_, hn, he⟩
        simp only [List.mem_append, List.mem_cons] at hx ⊢
        rcases hx with h1 | rfl | h1
        · exact .inl h1
        · exact absurd he.symm hjy
        · exact .inr h1
      · rintro ⟨x, hx, hn, he⟩
        exact ⟨x, hsub x hx, hn, he⟩
  · rcases h.from_ x (hsub x hx) hn d hd with h1 | ⟨z, hz, hzn, he⟩
    · exact .inl (mono d h1)
    · simp only [List.mem_append, List.mem_cons] at hz
      rcases hz with h1 | rfl | h1
      · exact .inr ⟨z, by simp [h1], hzn, he⟩
      · exact .inl (he ▸ hself)
      · exact .inr ⟨z, by simp [h1], hzn, he⟩

/-- One is listed, and lies in a block. -/
theorem Sch.mark {c1 c2 : CL} {y : POp} {L : Nat} (h : Sch P ops lt listed (c1 ++ (y, none) :: c2)) (hr : y.i ∈ Region.ready .any ops listed) (hl : lt.contains y.i = true) : Sch P ops lt (listed.setIfInBounds y.i true) (c1 ++ (y, some L) :: c2) := by
  have hy : (y, none) ∈ c1 ++ (y, none) :: c2 := by simp
  have hlt : y.i < ops.size := h.lt_ hy
  have hs := h.next hr
  have hcs : ∀ p ∈ c1 ++ (y, some L) :: c2, p = (y, some L) ∨ p ∈ c1 ++ c2 := fun p hp => by
    simp only [List.mem_append, List.mem_cons] at hp ⊢
    rcases hp with h1 | h1 | h1
    · exact .inr (.inl h1)
    · exact .inl h1
    · exact .inr (.inr h1)
  have hin : ∀ p ∈ c1 ++ c2, p ∈ c1 ++ (y, some L) :: c2 := fun p hp => by
    simp only [List.mem_append, List.mem_cons] at hp ⊢
    exact hp.imp id .inr
  refine ⟨fun p hp => ?_, fun j hj => ?_, fun p hp hn => ?_, fun p hp hq => ?_, ?_, fun p hp => ?_, fun p hp hn d hd => ?_, hs.down, hs.size⟩
  · rcases hcs p hp with rfl | hp
    · exact h.prep (y, none) hy
    · exact hs.prep p hp
  · rw [hs.un j hj]
    constructor
    · rintro ⟨x, hx, hn, he⟩; exact ⟨x, hin x hx, hn, he⟩
    · rintro ⟨x, hx, hn, he⟩
      rcases hcs x hx with rfl | hx
      · cases hn
      · exact ⟨x, hx, hn, he⟩
  · rcases hcs p hp with rfl | hp
    · exact hl
    · exact hs.pend p hp hn
  · rcases hcs p hp with rfl | hp
    · exact h.late (y, none) hy hq
    · exact hs.late p hp hq
  · have ho := List.pairwise_append.1 h.ord
    have ho2 := List.pairwise_cons.1 ho.2.1
    refine List.pairwise_append.2 ⟨ho.1, List.pairwise_cons.2 ⟨fun x hx => ho2.1 x hx, ho2.2⟩, fun a ha b hb => ?_⟩
    rcases List.mem_cons.1 hb with rfl | hb
    · exact ho.2.2 a ha (y, none) (by simp)
    · exact ho.2.2 a ha b (by simp [hb])
  · rcases hcs p hp with rfl | hp
    · exact h.irr (y, none) hy
    · exact hs.irr p hp
  · rcases hcs p hp with rfl | hp
    · cases hn
    · rcases hs.from_ p hp hn d hd with h1 | ⟨q, hq, hqn, he⟩
      · exact .inl h1
      · exact .inr ⟨q, hin q hq, hqn, he⟩

/-- As long as one is not listed, one is ready. -/
theorem Sch.ready {c : CL} (h : Sch P ops lt listed c) (hn : ∃ p ∈ c, p.2 = none) : ∃ p ∈ c, p.2 = none ∧ p.1.i ∈ Region.ready .any ops listed := by
  have key : ∀ (c1 c2 : CL), c = c1 ++ c2 → (∀ p ∈ c1, p.2 ≠ none) → (∃ p ∈ c2, p.2 = none) → ∃ p ∈ c, p.2 = none ∧ p.1.i ∈ Region.ready .any ops listed := by
    intro c1 c2
    induction c2 generalizing c1 with
    | nil => rintro _ _ ⟨p, hp, _⟩; cases hp
    | cons x c2 ih =>
      rintro rfl h1 h2
      by_cases hx : x.2 = none
      · have hxm : x ∈ c1 ++ x :: c2 := by simp
        refine ⟨x, hxm, hx, (ready_iff (h.lt_ hxm)).2 ⟨(h.un _ (h.lt_ hxm)).2 ⟨x, hxm, hx, rfl⟩, fun d hd => ?_⟩⟩
        refine (h.from_ x hxm hx d hd).resolve_right ?_
        rintro ⟨y, hy, hyn, he⟩
        simp only [List.mem_append, List.mem_cons] at hy
        rcases hy with hy | rfl | hy
        · exact h1 y hy hyn
        · exact h.irr _ hxm (he ▸ hd)
        · have ho := List.pairwise_append.1 h.ord
          exact ((List.pairwise_cons.1 ho.2.1).1 y hy).2.1 (he ▸ hd)
      · refine ih (c1 ++ [x]) (by simp) (fun p hp => ?_) ?_
        · rcases List.mem_append.1 hp with hp | hp
          · exact h1 p hp
          · rw [List.mem_singleton.1 hp]; exact hx
        · obtain ⟨p, hp, hpn⟩ := h2
          rcases List.mem_cons.1 hp with rfl | hp
          · exact absurd hpn hx
          · exact ⟨p, hp, hpn⟩
  exact key [] c rfl (fun p hp => by cases hp) hn
end

theorem okFrom_out {deps closed : List (List Nat)} {lt : List Nat} : ∀ (l : List POp) (done : List Nat), okFrom deps closed lt done l = true → ∀ y ∈ l, y.i ∉ done
  | [], _, _, y, hy => by cases hy
  | x :: l, done, h, y, hy => by
    simp only [okFrom, Bool.and_eq_true, Bool.not_eq_true'] at h
    rcases List.mem_cons.1 hy with rfl | hy
    · intro hc
      have := h.1.1.1.2
      rw [List.contains_iff_mem.2 hc] at this; cases this
    · exact fun hc => okFrom_out l _ h.2 y hy (List.mem_cons_of_mem _ hc)

theorem okFrom_spec {deps closed : List (List Nat)} {lt : List Nat} : ∀ (l : List POp) (done : List Nat), okFrom deps closed lt done l = true →
    l.Pairwise (fun x y => y.i ≠ x.i ∧ y.i ∉ deps.getD x.i [] ∧ pairOK closed lt x y = true) ∧ (∀ x ∈ l, x.i ∉ deps.getD x.i []) ∧ (∀ x ∈ l, ∀ d ∈ deps.getD x.i [], d ∈ done ∨ ∃ y ∈ l, y.i = d) ∧ (∀ x ∈ l, lt.contains x.i = true → x.canLate = true)
  | [], done, h => ⟨.nil, by simp, by simp, by simp⟩
  | x :: l, done, h => by
    have hout := okFrom_out _ _ h
    simp only [okFrom, Bool.and_eq_true, Bool.not_eq_true', Bool.or_eq_true] at h
    obtain ⟨⟨⟨⟨h1, h2⟩, h0⟩, h3⟩, h4⟩ := h
    have hout2 := okFrom_out _ _ h4
    obtain ⟨p1, p2, p3, p4⟩ := okFrom_spec l _ h4
    rw [List.all_eq_true] at h1 h3
    have hdeps : ∀ d ∈ deps.getD x.i [], d ∈ done := fun d hd => List.contains_iff_mem.1 (h1 d hd)
    refine ⟨List.pairwise_cons.2 ⟨fun y hy => ⟨fun e => hout2 y hy (e ▸ List.mem_cons_self), fun hc => hout2 y hy (List.mem_cons_of_mem _ (hdeps _ hc)), h3 y hy⟩, p1⟩, fun y hy => ?_, fun y hy d hd => ?_, fun y hy hl => ?_⟩
    · rcases List.mem_cons.1 hy with rfl | hy
      · exact fun hc => hout y (by simp) (hdeps _ hc)
      · exact p2 y hy
    · rcases List.mem_cons.1 hy with rfl | hy
      · exact .inl (hdeps d hd)
      · rcases p3 y hy d hd with hm | ⟨z, hz, he⟩
        · rcases List.mem_cons.1 hm with rfl | hm
          · exact .inr ⟨x, by simp, rfl⟩
          · exact .inl hm
        · exact .inr ⟨z, by simp [hz], he⟩
    · rcases List.mem_cons.1 hy with rfl | hy
      · rcases h0 with h0 | h0
        · rw [hl] at h0; cases h0
        · exact h0
      · exact p4 y hy hl

theorem prepOps_at {P : Program} {ops : Array Oper} {loose : Nat → List Nat} : ∀ (idx : List Nat) (l : List POp), prepOps P ops loose idx = some l → l.map (·.i) = idx ∧ ∀ x ∈ l, ∃ o, ops[x.i]? = some o ∧ x.op = prepOpN P o ∧ prepGuard ops o = some x.guard ∧ x.dst = o.dst
  | [], l, h => by simp only [prepOps, Option.some.injEq] at h; subst h; exact ⟨rfl, by simp⟩
  | i :: idx, l, h => by
    simp only [prepOps] at h
    split at h
    · cases h
    · rename_i o ho
      split at h
      · rename_i g l' h2 h3
        cases h
        obtain ⟨q1, q2⟩ := prepOps_at idx l' h3
        refine ⟨by simp [q1], fun x hx => ?_⟩
        rcases List.mem_cons.1 hx with rfl | hx
        · exact ⟨o, ho, rfl, h2, rfl⟩
        · exact q2 x hx
      · cases h

def fresh (l : List POp) : CL := l.map fun x => (x, none)

theorem prepDraw_sch {P : Program} {ops : Array Oper} {aops : List AOp} {ord : List Nat} {l : List POp} (h : prepDraw P ops aops (ops.toList.map depsOf) ((ops.toList.map depsOf).map (closeDeps (ops.toList.map depsOf) ops.size)) ord = some l) :
    ∃ lt, Sch P ops lt (Array.replicate ops.size false) (fresh l) ∧ l.length ≤ ops.size := by
  simp only [prepDraw] at h
  obtain ⟨hb, h⟩ := bif_some h
  rw [Bool.and_eq_true] at hb
  obtain ⟨hlen, hall⟩ := hb
  rw [List.all_eq_true] at hall
  split at h
  · rename_i l0 hl0
    obtain ⟨hok, h⟩ := bif_some h
    cases h
    obtain ⟨q1, q2⟩ := prepOps_at _ _ hl0
    obtain ⟨p1, p2, p3, p4⟩ := okFrom_spec _ _ hok
    have hrep : ∀ k, (Array.replicate ops.size false).getD k false = true → False := by
      intro k hk
      rw [Array.getD_eq_getD_getElem?, Array.getElem?_replicate] at hk
      split at hk <;> cases hk
    have hf : ∀ p ∈ fresh l, p.2 = none ∧ p.1 ∈ l := by
      intro p hp
      obtain ⟨x, hx, rfl⟩ := List.mem_map.1 hp
      exact ⟨rfl, hx⟩
    refine ⟨_, ⟨fun p hp => q2 p.1 (hf p hp).2, fun j hj => ?_, fun p hp hn => absurd (hf p hp).1 hn, fun p hp => p4 p.1 (hf p hp).2, ?_, fun p hp => p2 p.1 (hf p hp).2, fun p hp _ d hd => ?_, fun k hk => (hrep k hk).elim, by simp⟩, ?_⟩
    · constructor
      · intro _
        have hc := List.contains_iff_mem.1 (hall j (List.mem_range.2 hj))
        rw [← q1] at hc
        obtain ⟨x, hx, he⟩ := List.mem_map.1 hc
        exact ⟨(x, none), List.mem_map.2 ⟨x, hx, rfl⟩, rfl, he⟩
      · intro _
        simp [hj]
    · exact List.pairwise_map.2 p1
    · rcases p3 p.1 (hf p hp).2 d hd with hm | ⟨y, hy, he⟩
      · cases hm
      · exact .inr ⟨(y, none), List.mem_map.2 ⟨y, hy, rfl⟩, rfl, he⟩
    · have := congrArg List.length q1
      rw [List.length_map, Nat.eq_of_beq_eq_true hlen] at this
      omega
  · cases h

theorem prepRegion_draw {P : Program} {ops : Array Oper} {l : List POp} (h : prepRegion P ops true = some l) : ∃ lt, Sch P ops lt (Array.replicate ops.size false) (fresh l) ∧ l.length ≤ ops.size := by
  simp only [prepRegion, cond_true] at h
  split at h
  · rename_i l0 h0; cases h; exact prepDraw_sch h0
  · exact prepDraw_sch h

end
end Go.Abs
