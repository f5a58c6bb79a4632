/- Slices cut out of slices; copies; what is appended. -/
import Derived.Test.YtdlfikobjnjmaaaSym4
namespace Go.Abs
set_option linter.unusedSectionVars false
variable [Globs]
open Go
set_option linter.unusedVariables false
set_option linter.unusedSimpArgs false

section
variable {C : CW} {ro : Option Nat} {fn : FuncId} {nt : Nat} {L L' : Env} {D : List Nat} {H H' : Heap} {K : St → Prop} {M M' : HL} {n : Nat}

theorem cond_some {α : Type} {b : Bool} {x y : Option α} (h : b = true) : (bif b then x else y) = x := by rw [h]; rfl

/-- A slice is cut. -/
theorem blt_f {b len : Nat} (h : len ≤ b) : Nat.blt b len = false := by
  cases hb : Nat.blt b len with
  | false => rfl
  | true => have := Nat.le_of_ble_eq_true hb; omega
theorem cutPart_all {size : Nat} {base : Option Addr} {l h r : Nat} (hh : r ≤ h) : cutPart size base l h r = cutOpen size base l h := by
  simp only [cutPart, blt_f hh, Bool.false_and, cond_false]
theorem cutPart_lt {size : Nat} {base : Option Addr} {l h r : Nat} (hh : h < r) (hs : size ≤ 1000) : cutPart size base l h r = cutRoom size base l h r := by
  have h1 : Nat.blt h r = true := Nat.ble_eq_true_of_le hh
  have h2 : Nat.ble size 1000 = true := Nat.ble_eq_true_of_le hs
  simp only [cutPart, h1, h2, Bool.true_and, cond_true]

theorem Sl.cut {sz : Nat} {v : Value} {l : List Value} (hS : Sl M sz v l) {a b : Nat} (hab : a ≤ b) (hb : b * sz ≤ l.length) (hsz : 1 ≤ sz) (hs2 : sz ≤ 1000) :
    ∃ base len cap v', v = .slice base len cap ∧ Sl M sz v' ((l.drop (a * sz)).take ((b - a) * sz)) ∧ b ≤ len ∧ len * sz = l.length ∧
      (∀ lo hi, loOf lo = some a → hiOf len hi = some b → sliceA sz base len (capOf base cap) lo hi none = some v') := by
  cases hS with
  | nil c =>
    have hb0 : b = 0 := by
      have : b * sz ≤ 0 := hb
      rcases Nat.eq_zero_or_pos b with h | h
      · exact h
      · have := Nat.mul_le_mul h hsz; omega
    subst hb0
    have ha0 : a = 0 := by omega
    subst ha0
    refine ⟨none, 0, c, .slice none 0 c, rfl, by simpa using Sl.nil c, Nat.le_refl _, by simp, fun lo hi h1 h2 => ?_⟩
    simp only [sliceA, h1, h2, Option.isSome_none, Bool.false_and, cond_false, capOf, sliceTo]
    rw [cond_some (by simp [Nat.ble_eq])]
    simp [cutKnown]
  | emp a0 =>
    have hb0 : b = 0 := by
      have : b * sz ≤ 0 := hb
      rcases Nat.eq_zero_or_pos b with h | h
      · exact h
      · have := Nat.mul_le_mul h hsz; omega
    subst hb0
    have ha0 : a = 0 := by omega
    subst ha0
    refine ⟨some a0, 0, 2 * sz, .slice (some (Addr.plus a0 (0 * sz))) 0 (2 * sz), rfl, by simpa using Sl.emp _, Nat.le_refl _, by simp, fun lo hi h1 h2 => ?_⟩
    simp only [sliceA, h1, h2, Option.isSome_none, Bool.false_and, cond_false, capOf_open _ hs2, sliceTo]
    rw [cond_some (by simp [Nat.ble_eq]), cutPart_all (Nat.le_refl _)]
    rfl
  | row hm hc hlo hl hv hin hp =>
    rename_i bk o u lo' len cap ch cs
    have hbl : b ≤ len := by
      rcases Nat.lt_or_ge len b with h | h
      · have := Nat.mul_lt_mul_of_lt_of_le h (Nat.le_refl sz) hsz; omega
      · exact h
    have hsub : (cs.drop (o + a * sz - lo')).take ((b - a) * sz) = (l.drop (a * sz)).take ((b - a) * sz) := by
      have h0 : (l.drop (a * sz)).take ((b - a) * sz) = (((cs.drop (o - lo')).take l.length).drop (a * sz)).take ((b - a) * sz) := by rw [hv]
      rw [h0, List.drop_take, List.take_take, List.drop_drop]
      have h1 : (b - a) * sz = b * sz - a * sz := Nat.sub_mul _ _ _
      have h2 : a * sz ≤ b * sz := Nat.mul_le_mul_right _ hab
      rw [show o + a * sz - lo' = o - lo' + a * sz by omega, Nat.min_eq_left (by omega)]
    have hlen2 : ((l.drop (a * sz)).take ((b - a) * sz)).length = (b - a) * sz := by
      rw [List.length_take, List.length_drop]
      have h1 : (b - a) * sz = b * sz - a * sz := Nat.sub_mul _ _ _
      omega
    have hbnd : o + a * sz - lo' + (b - a) * sz ≤ cs.length := by
      have h1 : (b - a) * sz = b * sz - a * sz := Nat.sub_mul _ _ _
      have h2 : a * sz ≤ b * sz := Nat.mul_le_mul_right _ hab
      omega
    rcases hp with (rfl | ⟨r, rfl, hrl⟩) | ⟨c, rfl, hcl⟩
    · by_cases hbl2 : b < len
      · refine ⟨_, len, _, .slice (some ⟨bk, o + a * sz, some u⟩) (b - a) (roomCode sz (len - a)), rfl, ?_, hbl, hl.symm, fun lo hi h1 h2 => ?_⟩
        · exact .row hm hc (by omega) hlen2 (by rw [hlen2]; exact hsub) (by rw [hlen2]; exact hbnd) (.inl (.inr ⟨len - a, rfl, by omega⟩))
        · simp only [sliceA, h1, h2, Option.isSome_none, Bool.false_and, cond_false, capOf_open _ hs2, sliceTo]
          rw [cond_some (by simp [Nat.ble_eq, hbl, hab]), cutPart_lt hbl2 hs2]
          rfl
      · refine ⟨_, len, _, .slice (some ⟨bk, o + a * sz, some u⟩) (b - a) (2 * sz), rfl, ?_, hbl, hl.symm, fun lo hi h1 h2 => ?_⟩
        · exact .row hm hc (by omega) hlen2 (by rw [hlen2]; exact hsub) (by rw [hlen2]; exact hbnd) (.inl (.inl rfl))
        · simp only [sliceA, h1, h2, Option.isSome_none, Bool.false_and, cond_false, capOf_open _ hs2, sliceTo]
          rw [cond_some (by simp [Nat.ble_eq, hbl, hab]), cutPart_all (by omega)]
          rfl
    · by_cases hbl2 : b < r
      · refine ⟨_, len, _, .slice (some ⟨bk, o + a * sz, some u⟩) (b - a) (roomCode sz (r - a)), rfl, ?_, hbl, hl.symm, fun lo hi h1 h2 => ?_⟩
        · exact .row hm hc (by omega) hlen2 (by rw [hlen2]; exact hsub) (by rw [hlen2]; exact hbnd) (.inl (.inr ⟨r - a, rfl, by omega⟩))
        · simp only [sliceA, h1, h2, Option.isSome_none, Bool.false_and, cond_false, capOf_room _ hs2, sliceTo]
          rw [cond_some (by simp [Nat.ble_eq, hab]; omega), cutPart_lt hbl2 hs2]
          rfl
      · refine ⟨_, len, _, .slice (some ⟨bk, o + a * sz, some u⟩) (b - a) (2 * sz), rfl, ?_, hbl, hl.symm, fun lo hi h1 h2 => ?_⟩
        · exact .row hm hc (by omega) hlen2 (by rw [hlen2]; exact hsub) (by rw [hlen2]; exact hbnd) (.inl (.inl rfl))
        · simp only [sliceA, h1, h2, Option.isSome_none, Bool.false_and, cond_false, capOf_room _ hs2, sliceTo]
          rw [cond_some (by simp [Nat.ble_eq, hab]; omega), cutPart_all (by omega)]
          rfl
    · by_cases hca : c = a
      · have hba : b = a := by omega
        subst hba
        refine ⟨_, len, _, .slice (some ⟨bk, o, some u⟩) 0 1, rfl, ?_, hbl, hl.symm, fun lo hi h1 h2 => ?_⟩
        · rw [Nat.sub_self, Nat.zero_mul, List.take_zero]
          exact .row hm hc hlo (by simp) (by simp) (by simp; omega) (.inr ⟨0, rfl, Nat.le_refl _⟩)
        · simp only [sliceA, h1, h2, Option.isSome_none, Bool.false_and, cond_false, capOf_known, sliceTo]
          rw [cond_some (by simp [Nat.ble_eq]; omega)]
          simp [cutKnown, hca]
      · refine ⟨_, len, _, .slice (some ⟨bk, o + a * sz, some u⟩) (b - a) (2 * (c - a) + 1), rfl, ?_, hbl, hl.symm, fun lo hi h1 h2 => ?_⟩
        · exact .row hm hc (by omega) hlen2 (by rw [hlen2]; exact hsub) (by rw [hlen2]; exact hbnd) (.inr ⟨c - a, rfl, by omega⟩)
        · simp only [sliceA, h1, h2, Option.isSome_none, Bool.false_and, cond_false, capOf_known, sliceTo]
          rw [cond_some (by simp [Nat.ble_eq]; omega)]
          have : Nat.beq c a = false := by cases hb : Nat.beq c a with | false => rfl | true => exact absurd (Nat.eq_of_beq_eq_true hb) hca
          simp [cutKnown, this, Addr.plus]

/-- What an operand of a cut is. -/
def bnd (L : Env) : Option Operand → Option (Option Value)
  | none => some none
  | some x => (match ev L x with | some v => some (some v) | none => none)

theorem bnd_ok {t : Tr Value} (h : has L t) {x : Option Operand} {v : Option Value} (hx : bnd L x = some v) : x.map (evalO t) = v := by
  cases x with
  | none => cases hx; rfl
  | some x =>
    simp only [bnd] at hx
    split at hx
    · rename_i u hu; cases hx; simp [ev_ok h hu]
    · cases hx

theorem WR.slS {i d : Nat} {x : Operand} {sz : Nat} {lo hi : Option Operand} {vl vh : Option Value} {lo' : List Nat} {l : List POp} {gd : Option (Tmp × Bool)} {v : Value} {cs : List Value} {a b : Nat} (hg : gOK L gd) (hd : Nat.blt d nt = true) (hx : ev L x = some v) (hS : Sl M sz v cs)
    (h1 : bnd L lo = some vl) (h2 : bnd L hi = some vh) (ha : loOf vl = some a) (hb : ∀ len, len * sz = cs.length → hiOf len vh = some b) (hab : a ≤ b) (hbl : b * sz ≤ cs.length) (hsz : 1 ≤ sz)
    (k : ∀ v', Sl M sz v' ((cs.drop (a * sz)).take ((b - a) * sz)) → WR C nt l ((d, v') :: L) D H K) (hs2 : sz ≤ 1000 := by decide) : WR C nt (⟨i, some d, .slS x sz lo hi none, gd, lo'⟩ :: l) L D H K := by
  obtain ⟨base, len, cap, v', rfl, h3, h4, h5, h6⟩ := hS.cut hab hbl hsz hs2
  refine WR.op hg hd (v := v') (fun t ht => ?_) (k v' h3)
  simp only [opA, ev_ok ht hx, bnd_ok ht h1, bnd_ok ht h2, Option.map_none, oSlS, h6 _ _ ha (hb len h5), asVal]

/-- A slice of one's own, but for its first elements. -/
theorem WR.slOwn {i d : Nat} {x : Operand} {e sz : Nat} {lo : Operand} {kd : IntKind} {lo' : List Nat} {l : List POp} {gd : Option (Tmp × Bool)} {v : Value} {cs : List Value} {a : Nat} {Mx M0 : HL} (hg : gOK L gd) (hd : Nat.blt d nt = true) (hx : ev L x = some v) (hO : Own e sz v cs Mx)
    (hH : hasH (Mx ++ M0) n H) (h1 : ev L lo = some (.int kd (a : Int))) (ha : a * sz ≤ cs.length) (ha1 : 1 ≤ a) (hsz : 1 ≤ sz)
    (k : ∀ v' Mx', Own e sz v' (cs.drop (a * sz)) Mx' → hasH (Mx' ++ M0) n H → WR C nt l ((d, v') :: L) D H K) (hs2 : sz ≤ 1000 := by decide) : WR C nt (⟨i, some d, .slS x sz (some lo) none none, gd, lo'⟩ :: l) L D H K := by
  cases hO with
  | nil =>
    have h2 : a * sz = 0 := by simpa using ha
    rcases Nat.mul_eq_zero.1 h2 with h | h <;> omega
  | row hl =>
    rename_i b u o len
    have hal : a ≤ len := by
      rcases Nat.lt_or_ge len a with h | h
      · have := Nat.mul_lt_mul_of_lt_of_le h (Nat.le_refl sz) hsz; omega
      · exact h
    refine WR.op hg hd (v := .slice (some ⟨b, o + a * sz, some u⟩) (len - a) (2 * sz)) (fun t ht => ?_) (k _ [(b, .row e u (o + a * sz) (cs.drop (a * sz)))] (.row (by rw [List.length_drop, hl, Nat.sub_mul])) ?_)
    · have e1 : loOf (some (.int kd (a : Int))) = some a := rfl
      simp only [opA, ev_ok ht hx, Option.map_some, ev_ok ht h1, Option.map_none, oSlS, sliceA, e1, hiOf, Option.isSome_none, Bool.false_and, cond_false, capOf_open _ hs2, sliceTo]
      rw [cond_some (by simp [Nat.ble_eq, hal]), cutPart_all (Nat.le_refl _)]
      rfl
    · refine ⟨hH.next, fun p hp => ?_, by simpa using hH.nodup⟩
      rcases List.mem_cons.1 hp with rfl | hp
      · obtain ⟨h2, ent, h3, h4⟩ := hH.blk (b, .row e u o cs) (by simp)
        refine ⟨h2, ent, h3, ?_⟩
        cases ent with
        | cells e' ro vs top c =>
          obtain ⟨q1, q2, ⟨l0, q3, q4⟩, q5, q6, q7⟩ := h4
          refine ⟨q1, q2, ⟨l0, ?_, by omega⟩, ?_, ?_, q7⟩
          · rw [q3, List.length_drop]; congr 2; omega
          · rw [readL_iff rfl]
            intro j hj
            rw [List.length_drop] at hj
            have := (readL_iff rfl).1 q5 (a * sz + j) (by omega)
            rw [List.getElem?_drop, ← this]; congr 1; omega
          · rw [List.all_eq_true] at q6 ⊢; exact fun x hx => q6 x (List.mem_of_mem_drop hx)
        | _ => exact h4.elim
      · have hp2 : p ∈ M0 := hp
        exact hH.blk p (by simp [hp2])
  | full hl hone =>
    rename_i b u o len
    have hal : a ≤ len := by
      rcases Nat.lt_or_ge len a with h | h
      · have := Nat.mul_lt_mul_of_lt_of_le h (Nat.le_refl sz) hsz; omega
      · exact h
    have e1 : loOf (some (.int kd (a : Int))) = some a := rfl
    have hdone : (cs.drop (a * sz)).all one = true := by rw [List.all_eq_true] at hone ⊢; exact fun x hx => hone x (List.mem_of_mem_drop hx)
    have hchunk : ∀ o', o ≤ o' → o' ≤ o + a * sz → ((cs.drop (a * sz)) ≠ [] → o' = o + a * sz) → hasH ([(b, .inp e u o' (cs.drop (a * sz)))] ++ M0) n H := by
      intro o' ho1 ho2 ho3
      refine ⟨hH.next, fun p hp => ?_, by simpa using hH.nodup⟩
      rcases List.mem_cons.1 hp with rfl | hp
      · obtain ⟨h2, ent, h3, h4⟩ := hH.blk (b, .inp e u o cs) (by simp)
        refine ⟨h2, ent, h3, ?_⟩
        cases ent with
        | cells e' ro vs top c =>
          obtain ⟨⟨l0, h0, q3, q4, q5⟩, q6⟩ := h4
          refine ⟨⟨l0, h0, q3, by omega, by rw [List.length_drop]; omega⟩, ?_⟩
          rw [readL_iff rfl]
          intro j hj
          have ho4 := ho3 (fun e => by rw [e] at hj; exact absurd hj (Nat.not_lt_zero _))
          subst ho4
          rw [List.length_drop] at hj
          have := (readL_iff rfl).1 q6 (a * sz + j) (by omega)
          rw [List.getElem?_drop, ← this]; congr 1; omega
        | _ => exact h4.elim
      · have hp2 : p ∈ M0 := hp
        exact hH.blk p (by simp [hp2])
    by_cases hla : len = a
    · have hnil : cs.drop (a * sz) = [] := List.drop_eq_nil_iff.2 (by rw [hl, hla]; exact Nat.le_refl _)
      refine WR.op hg hd (v := .slice (some ⟨b, o, some u⟩) 0 (2 * 0 + 1)) (fun t ht => ?_) (k _ [(b, .inp e u o (cs.drop (a * sz)))] (.full (by rw [hnil]; simp) hdone) (hchunk o (Nat.le_refl _) (by omega) (fun h => absurd hnil h)))
      simp only [opA, ev_ok ht hx, Option.map_some, ev_ok ht h1, Option.map_none, oSlS, sliceA, e1, hiOf, Option.isSome_none, Bool.false_and, cond_false, capOf_known, sliceTo]
      rw [cond_some (by simp [Nat.ble_eq, hal])]
      simp [cutKnown, hla, asVal]
    · refine WR.op hg hd (v := .slice (some ⟨b, o + a * sz, some u⟩) (len - a) (2 * (len - a) + 1)) (fun t ht => ?_) (k _ [(b, .inp e u (o + a * sz) (cs.drop (a * sz)))] (.full (by rw [List.length_drop, hl, Nat.sub_mul]) hdone) (hchunk _ (by omega) (Nat.le_refl _) (fun _ => rfl)))
      simp only [opA, ev_ok ht hx, Option.map_some, ev_ok ht h1, Option.map_none, oSlS, sliceA, e1, hiOf, Option.isSome_none, Bool.false_and, cond_false, capOf_known, sliceTo]
      rw [cond_some (by simp [Nat.ble_eq, hal])]
      have : Nat.beq len a = false := by cases hb : Nat.beq len a with | false => rfl | true => exact absurd (Nat.eq_of_beq_eq_true hb) hla
      simp [cutKnown, this, Addr.plus, asVal]

theorem hasH.pull {F Mx T : HL} (h : hasH (F ++ (Mx ++ T)) n H) : hasH (Mx ++ (F ++ T)) n H :=
  h.perm (by rw [← List.append_assoc, ← List.append_assoc]; exact List.perm_append_comm.append_right _)
theorem hasH.push {F Mx T : HL} (h : hasH (Mx ++ (F ++ T)) n H) : hasH (F ++ (Mx ++ T)) n H :=
  h.perm (by rw [← List.append_assoc, ← List.append_assoc]; exact List.perm_append_comm.append_right _)

/-- One element more for a slice of one's own that lies behind some other blocks. -/
theorem WR.append1F {i j d d2 : Nat} {e sz : Nat} {z : List Value} {s x : Operand} {lo : List Nat} {l : List POp} {v y : Value} {cs new : List Value} (F Mx T : HL) (hd : Nat.blt d nt = true) (hd2 : Nat.blt d2 nt = true)
    (hx : ev L x = some y) (hs : ev ((d, .slice (some ⟨n, 0, some 0⟩) 1 (2 * 1 + 1)) :: L) s = some v) (hO : Own e sz v cs Mx) (hH : hasH (F ++ (Mx ++ T)) n H)
    (hc : Instr.fill (fun j => some (j * sz, sz)) z.toArray [(0, y)] = some new.toArray) (hone : new.all one = true) (hl : new.length = sz) (hs1 : 1 ≤ sz) (hs2 : sz ≤ 1000) (hsm : cs.length + new.length ≤ 100000)
    (kk : ∀ v' Mx' n' H', Own e sz v' (cs ++ new) Mx' → hasH (F ++ (Mx' ++ T)) n' H' → n ≤ n' → WR C nt l ((d2, v') :: (d, .slice (some ⟨n, 0, some 0⟩) 1 (2 * 1 + 1)) :: L) D H' K) :
    WR C nt (⟨i, some d, .bldS e sz z 1 [(0, x)], none, []⟩ :: ⟨j, some d2, .append e sz s (.tmp d), none, lo⟩ :: l) L D H K :=
  WR.append1 hd hd2 hx hs hO hH.pull (List.Sublist.refl _) (List.Perm.refl _) hc hone hl hs1 hs2 hsm fun v' Mx' n' H' q1 q2 q3 => kk v' Mx' n' H' q1 q2.push q3

theorem WR.slOwnF {i d : Nat} {x : Operand} {e sz : Nat} {lo : Operand} {kd : IntKind} {lo' : List Nat} {l : List POp} {gd : Option (Tmp × Bool)} {v : Value} {cs : List Value} {a : Nat} (F Mx T : HL) (hg : gOK L gd) (hd : Nat.blt d nt = true) (hx : ev L x = some v) (hO : Own e sz v cs Mx)
    (hH : hasH (F ++ (Mx ++ T)) n H) (h1 : ev L lo = some (.int kd (a : Int))) (ha : a * sz ≤ cs.length) (ha1 : 1 ≤ a) (hsz : 1 ≤ sz)
    (k : ∀ v' Mx', Own e sz v' (cs.drop (a * sz)) Mx' → hasH (F ++ (Mx' ++ T)) n H → WR C nt l ((d, v') :: L) D H K) (hs2 : sz ≤ 1000 := by decide) : WR C nt (⟨i, some d, .slS x sz (some lo) none none, gd, lo'⟩ :: l) L D H K :=
  WR.slOwn hg hd hx hO hH.pull h1 ha ha1 hsz (fun v' Mx' q1 q2 => k v' Mx' q1 q2.push) hs2

/-- A box of one cell. -/
theorem WR.storeBox {i : Nat} {x y : Operand} {v w : Value} {b e u : Nat} {lo' : List Nat} {l : List POp} {gd : Option (Tmp × Bool)} (hg : gOK L gd) (hH : hasH M n H) (hx : ev L x = some (.pointer (some ⟨b, 0, some u⟩))) (hy : ev L y = some v)
    (h1 : one v = true) (hu : Upd M b (.row e u 0 [w]) (.row e u 0 [v]) M') (k : ∀ H', hasH M' n H' → WR C nt l L D H' K) : WR C nt (⟨i, none, .store x y 1, gd, lo'⟩ :: l) L D H K :=
  WR.store1 hg hH hx hy h1 hu (Nat.zero_le _) (by simp) rfl k

/-! Rows of ints, and of bools. -/

theorem ints_get {xs : List Int} {y : Nat} (h : y < xs.length) : (xs.map (Value.int .i64))[y]? = some (.int .i64 (xs.getD y 0)) := by
  rw [List.getElem?_map, List.getElem?_eq_getElem h, List.getD_eq_getElem?_getD, List.getElem?_eq_getElem h]; rfl

theorem OpV.loadI {x : Operand} {b e u o : Nat} {xs : List Int} (hx : ev L x = some (.pointer (some ⟨b, o, some u⟩))) (hH : hasH M n H) (hm : (b, .row e u 0 (xs.map (Value.int .i64))) ∈ M) (ho : o < xs.length) : OpV C (.load1 x) L H (.int .i64 (xs.getD o 0)) H :=
  OpV.load1 hx hH hm (.row _ _ _ _) (Nat.zero_le _) (ints_get ho)

theorem WR.storeI {i : Nat} {x y : Operand} {a : Int} {b e u o : Nat} {xs : List Int} {lo' : List Nat} {l : List POp} {gd : Option (Tmp × Bool)} (hg : gOK L gd) (hH : hasH M n H) (hx : ev L x = some (.pointer (some ⟨b, o, some u⟩))) (hy : ev L y = some (.int .i64 a))
    (hu : Upd M b (.row e u 0 (xs.map (Value.int .i64))) (.row e u 0 ((xs.set o a).map (Value.int .i64))) M') (ho : o < xs.length) (k : ∀ H', hasH M' n H' → WR C nt l L D H' K) : WR C nt (⟨i, none, .store x y 1, gd, lo'⟩ :: l) L D H K :=
  WR.store1 hg hH hx hy rfl hu (Nat.zero_le _) (by simpa using ho) (by simp [List.map_set]) k

theorem bools_get {xs : List Bool} {y : Nat} (h : y < xs.length) : (xs.map Value.bool)[y]? = some (.bool (xs.getD y false)) := by
  rw [List.getElem?_map, List.getElem?_eq_getElem h, List.getD_eq_getElem?_getD, List.getElem?_eq_getElem h]; rfl

theorem OpV.loadB {x : Operand} {b e u o : Nat} {xs : List Bool} (hx : ev L x = some (.pointer (some ⟨b, o, some u⟩))) (hH : hasH M n H) (hm : (b, .row e u 0 (xs.map Value.bool)) ∈ M) (ho : o < xs.length) : OpV C (.load1 x) L H (.bool (xs.getD o false)) H :=
  OpV.load1 hx hH hm (.row _ _ _ _) (Nat.zero_le _) (bools_get ho)

theorem WR.storeB {i : Nat} {x y : Operand} {a : Bool} {b e u o : Nat} {xs : List Bool} {lo' : List Nat} {l : List POp} {gd : Option (Tmp × Bool)} (hg : gOK L gd) (hH : hasH M n H) (hx : ev L x = some (.pointer (some ⟨b, o, some u⟩))) (hy : ev L y = some (.bool a))
    (hu : Upd M b (.row e u 0 (xs.map Value.bool)) (.row e u 0 ((xs.set o a).map Value.bool)) M') (ho : o < xs.length) (k : ∀ H', hasH M' n H' → WR C nt l L D H' K) : WR C nt (⟨i, none, .store x y 1, gd, lo'⟩ :: l) L D H K :=
  WR.store1 hg hH hx hy rfl hu (Nat.zero_le _) (by simpa using ho) (by simp [List.map_set]) k

/-- Values that come out as asked. -/
theorem OpV.rem' {x y : Operand} {a b c : Int} {k : IntKind} (hx : ev L x = some (.int k a)) (hy : ev L y = some (.int k b)) (hc : a % b = c) (ha : 0 ≤ a) (hb : 0 < b) : OpV C (.ibin .rem k x y) L H (.int k c) H := by
  subst hc; exact OpV.rem hx hy ha hb
theorem OpV.quo' {x y : Operand} {a b c : Int} (hx : ev L x = some (.int .i64 a)) (hy : ev L y = some (.int .i64 b)) (hc : a / b = c) (ha : 0 ≤ a ∧ a ≤ 9223372036854775807) (hb : 1 ≤ b) : OpV C (.ibin .quo .i64 x y) L H (.int .i64 c) H := by
  subst hc; exact OpV.quo hx hy ha hb
theorem OpV.min' {dst : Option Tmp} {x y : Operand} {ts : Array TypeId} {ty : TypeId} {pos : String} {af : Array Edge} {g : Option (Nat × Bool)} {k k' : IntKind} {a b c : Int} (hx : ev L x = some (.int k a)) (hy : ev L y = some (.int k' b)) (hc : Min.min a b = c) :
    OpV C (.plain ⟨dst, .call ⟨.builtin .min, #[x, y], ts⟩, ty, pos, af, g⟩) L H (.int k c) H := by
  subst hc
  have := OpV.min (C := C) (H := H) (dst := dst) (ts := ts) (ty := ty) (pos := pos) (af := af) (g := g) hx hy
  rwa [show (if b < a then b else a) = Min.min a b by rw [Int.min_def]; split <;> split <;> omega] at this
theorem OpV.max' {dst : Option Tmp} {x y : Operand} {ts : Array TypeId} {ty : TypeId} {pos : String} {af : Array Edge} {g : Option (Nat × Bool)} {k k' : IntKind} {a b c : Int} (hx : ev L x = some (.int k a)) (hy : ev L y = some (.int k' b)) (hc : Max.max a b = c) :
    OpV C (.plain ⟨dst, .call ⟨.builtin .max, #[x, y], ts⟩, ty, pos, af, g⟩) L H (.int k c) H := by
  subst hc
  have := OpV.max (C := C) (H := H) (dst := dst) (ts := ts) (ty := ty) (pos := pos) (af := af) (g := g) hx hy
  rwa [show (if b > a then b else a) = Max.max a b by rw [Int.max_def]; split <;> split <;> omega] at this

theorem Sl.src {v : Value} {l : List Value} (hS : Sl M 1 v l) (hH : hasH M n H) (hne : l ≠ []) : srcLen v = some l.length ∧ ∀ m, m ≤ l.length → srcCells H 1 m v = some (l.take m) := by
  cases hS with
  | nil c => exact absurd rfl hne
  | emp a => exact absurd rfl hne
  | row hm hc hlo hl hv hin hp =>
    rename_i b o u lo len cap ch cs
    refine ⟨by rw [hl, Nat.mul_one]; rfl, fun m hml => ?_⟩
    simp only [srcCells, Nat.mul_one, hH.readN hm hc hlo (show o - lo + m ≤ cs.length by omega)]
    have h0 : l.take m = ((cs.drop (o - lo)).take l.length).take m := by rw [hv]
    rw [h0, List.take_take, Nat.min_eq_left hml]

/-- A whole array as a slice. -/
theorem OpV.slA {x : Operand} {b o sz k : Nat} {sp : Option Nat} (hx : ev L x = some (.pointer (some ⟨b, o, sp⟩))) (hk : 1 ≤ k) : OpV C (.slA x k sz none none none) L H (.slice (some ⟨b, o, sp⟩) k (2 * k + 1)) H := fun t ht => by
  have h1 : Nat.beq k 0 = false := by cases hb : Nat.beq k 0 with | false => rfl | true => have := Nat.eq_of_beq_eq_true hb; omega
  simp only [opA, ev_ok ht hx, Option.map_none, oSlA, sliceA, loOf, hiOf, Option.isSome_none, Bool.false_and, cond_false, sliceTo]
  rw [cond_some (by simp [Nat.ble_eq])]
  simp [cutKnown, h1, Addr.plus, asVal]
/-- Copied. -/
theorem copy_row {y : Value} {l cs cs' : List Value} {b e u lo o dl cap : Nat} (hS : Sl M 1 y l) (hH : hasH M n H) (hu : Upd M b (.row e u lo cs) (.row e u lo cs') M') (hone : l.all one = true) (hlo : lo ≤ o) (hdl : l.length ≤ dl) (hin : o - lo + l.length ≤ cs.length)
    (hcs : cs' = splice cs (o - lo) l) (hne : l ≠ []) : ∃ H', copyA 1 H (.slice (some ⟨b, o, some u⟩) dl cap) y = .val (goInt (l.length : Nat)) H' ∧ hasH M' n H' := by
  obtain ⟨h1, h2⟩ := hS.src hH hne
  have h3 := h2 l.length (Nat.le_refl _)
  rw [List.take_length] at h3
  have h4 : Nat.min l.length dl = l.length := Nat.min_eq_left hdl
  cases l with
  | nil =>
    have : cs' = cs := by rw [hcs]; simp [splice]
    subst this
    refine ⟨H, ?_, ?_⟩
    · simp only [copyA, h1, List.length_nil, Nat.zero_min] at *
      simp only [h3]
    · have hM : M' = M := hu.same rfl
      rw [hM]; exact hH
  | cons c l =>
    obtain ⟨H', h5, h6⟩ := hH.writeN hu hone hlo hin hcs
    refine ⟨H', ?_, h6⟩
    simp only [copyA, h1, h4, h3, h5]

theorem WR.copy {i d : Nat} {x y : Operand} {lo' : List Nat} {l : List POp} {gd : Option (Tmp × Bool)} {v : Value} {ls cs cs' : List Value} {b e u lo o dl cap : Nat} (hg : gOK L gd) (hd : Nat.blt d nt = true) (hx : ev L x = some (.slice (some ⟨b, o, some u⟩) dl cap)) (hy : ev L y = some v)
    (hS : Sl M 1 v ls) (hH : hasH M n H) (hu : Upd M b (.row e u lo cs) (.row e u lo cs') M') (hone : ls.all one = true) (hlo : lo ≤ o) (hdl : ls.length ≤ dl) (hin : o - lo + ls.length ≤ cs.length) (hcs : cs' = splice cs (o - lo) ls) (hne : ls ≠ [])
    (k : ∀ H', hasH M' n H' → WR C nt l ((d, .int .i64 (ls.length : Nat)) :: L) D H' K) : WR C nt (⟨i, some d, .copy 1 x y, gd, lo'⟩ :: l) L D H K := by
  obtain ⟨H', h1, h2⟩ := copy_row (cap := cap) hS hH hu hone hlo hdl hin hcs hne
  refine WR.op hg hd (v := .int .i64 (ls.length : Nat)) (H' := H') (fun t ht => ?_) (k H' h2)
  simp only [opA, ev_ok ht hx, ev_ok ht hy, h1, goInt]

end

/-- An iterator: it hands over these values, one after another, as long as it is asked for more. -/
def Iter (C : CW) (g : FuncId) (va vb : List Value) (req : Heap → Prop) (ys : List Value) : Prop :=
  ∀ (l : Nat) (J : List Value → Heap → Prop) (S : Heap → Prop), (∀ zs H, J zs H → req H) →
    (∀ z zs H, J (z :: zs) H → YS C l [z] H (fun b H' => (b = .bool true ∧ J zs H') ∨ (b = .bool false ∧ S H'))) →
    ∀ H, J ys H → FS C g (va ++ [.func (.yield l) #[] #[]] ++ vb) H (fun _ H' => J [] H' ∨ S H')

theorem Iter.mono {C : CW} {g : FuncId} {va vb : List Value} {req req' : Heap → Prop} {ys : List Value} (h : Iter C g va vb req ys) (k : ∀ H, req' H → req H) : Iter C g va vb req' ys :=
  fun l J S h1 h2 H hJ => h l J S (fun zs H q => k H (h1 zs H q)) h2 H hJ

theorem YS.mono {C : CW} {l : Nat} {args : List Value} {H : Heap} {R R' : Value → Heap → Prop} (h : YS C l args H R) (k : ∀ v H', R v H' → R' v H') : YS C l args H R' := by
  obtain ⟨v, H', h1, h2⟩ := h; exact ⟨v, H', h1, k _ _ h2⟩

end Go.Abs
