/- Slices written out; calls; each operation at once. -/
import Derived.Test.YtdlfikobjnjmaaaAbsMap
namespace Go.Abs
set_option linter.unusedSectionVars false
variable [Globs]
open Go
set_option linter.unusedVariables false
set_option linter.unusedSimpArgs false

section
variable {P : Program} {σ : Ren} {N : Nat} {H : Heap} {w : World} {ρ ρ' : Operand → Value} {o : Oper}

theorem ok_bldS (h : HR P σ N H w) {t e : TypeId} {n : Nat} {parts : Array (Nat × Operand)} {z : List Value} (hop : o.op = .buildSlice t n parts) (hd : P.underlying t = some (.slice e)) (hz : zeroT P e = some z)
    (hn : n * sizeT P e ≤ 100000) (hsz : 1 ≤ sizeT P e) (hps : ∀ p ∈ parts.toList, VR σ (ρ p.2) (ρ' p.2)) {v : Value} {H' : Heap}
    (hv : oBldS e n (Instr.fill (fun j => some (j * sizeT P e, sizeT P e)) ((List.replicate n z).flatten).toArray (parts.toList.map fun p => (p.1, ρ p.2))) H = .val v H') : OpOK P σ N H w (execOp ρ' o) v H' := by
  obtain ⟨i, zv, hi, hzv, rfl, hp, hs⟩ := zeroT_of hz
  unfold oBldS at hv
  split at hv
  · rename_i cs hfill
    cases hv
    obtain ⟨y', hy', hyy⟩ := fill_rel (σ := σ) (PL.map_ρ hps) (x' := ((List.replicate n zv.cells.toList).flatten).toArray) (VL.refl_plain (by simpa using all_flat hp n)) hfill
    have e1 := run_underlying (w := w) hd
    have e2 := fun w => run_zeroValue (P := P) (w := w) hi hzv
    have e3 := run_sizeOf (P := P) (w := w) hi
    rw [sizeT_of hi] at hn hsz hy'
    have t1 : ¬ n * i.size > 2 ^ 24 := by omega
    have hflat : ((Array.range (n * i.size)).map (fun j => zv.cells[j % zv.cells.size]!)) = ((List.replicate n zv.cells.toList).flatten).toArray := by rw [← hs]; exact flat_eq (by omega) n
    refine newS_OK h (ls' := y'.toList) hyy ?_
    by_cases h0 : n * i.size = 0
    · have hn0 : n = 0 := by rcases Nat.mul_eq_zero.1 h0 with h | h <;> omega
      subst hn0
      simp only [Nat.zero_mul, List.replicate_zero, List.flatten_nil] at hy'
      simp only [execOp, hop, Instr.buildSlice, Sem.run_bind, e1, Result.andThen_ok, e3, Nat.zero_mul, if_neg (show ¬ (0 : Nat) > 2 ^ 24 by decide), if_true, Sem.run_pure, Array.toList_map]
      have hr0 : (Array.range 0).map (fun j => (#[] : Array Value)[j % (#[] : Array Value).size]!) = #[] := by simp
      rw [hr0]
      simp only [hy', Sem.run_bind, newRow, run_newObj, Result.andThen_ok, Sem.run_pure, Array.toArray_toList]
    · simp only [execOp, hop, Instr.buildSlice, Sem.run_bind, e1, Result.andThen_ok, e3, if_neg t1, if_neg h0, e2, Sem.run_pure, Array.toList_map, hflat, hy', newRow, run_newObj, Array.toArray_toList]
  · cases hv

theorem zeroV_of {t : TypeId} {z : Value} (h : zeroV P t = some z) : ∃ i, P.info? t = some i ∧ i.zero = some z ∧ plainV z = true := by
  unfold zeroV at h
  split at h
  · rename_i i hi
    split at h
    · rename_i z' hz
      obtain ⟨hb, he⟩ := bif_some h
      cases he
      exact ⟨i, hi, hz, hb⟩
    · cases h
  · cases h

theorem VR.tuple2 {a a' b b' : Value} (h : VR σ a a') (k : VR σ b b') : VR σ (.tuple #[a, b]) (.tuple #[a', b']) :=
  .tuple_list (.cons h (.cons k .nil))

theorem ok_tas (h : HR P σ N H w) {xt a : TypeId} {x : Operand} {ok : Bool} {z : Value} {d : TypeDesc} (hop : o.op = .typeAssert x xt a ok) (hd : P.underlying a = some d) (hni : ∀ m, d ≠ .interface m) (hz : zeroV P a = some z)
    (hx : VR σ (ρ x) (ρ' x)) {v : Value} {H' : Heap} (hv : oTas a z (ρ x) ok H = .val v H') : OpOK P σ N H w (execOp ρ' o) v H' := by
  obtain ⟨i, hi, hzz, hpz⟩ := zeroV_of hz
  have e0 := run_underlying (w := w) hd
  have e2 := run_zeroValue (w := w) hi hzz
  generalize hq : ρ x = q at hx hv
  generalize hq' : ρ' x = q' at hx
  unfold oTas at hv
  cases hx with
  | iface t hvv =>
    rename_i u u'
    simp only at hv
    cases hb : Nat.beq t a with
    | true =>
      have := Nat.eq_of_beq_eq_true hb
      subst this
      simp only [hb, cond_true] at hv
      cases hv
      refine OpOK.still h (v' := bif ok then .tuple #[u', .bool true] else u') ?_ ?_
      · cases d <;> first | (exact absurd rfl (hni _)) | (cases ok <;> simp [execOp, hop, hq', Instr.typeAssert, e0])
      · cases ok
        · exact hvv
        · exact VR.tuple2 hvv (.bool _)
    | false =>
      have hne : t ≠ a := fun e => by subst e; simp at hb
      simp only [hb, cond_false] at hv
      cases ok with
      | false => cases hv
      | true =>
        cases hv
        refine OpOK.still h (v' := .tuple #[z, .bool false]) ?_ (VR.tuple2 (VR.refl_plain hpz) (.bool _))
        cases d <;> first | (exact absurd rfl (hni _)) | simp [execOp, hop, hq', Instr.typeAssert, e0, hne, e2]
  | nilIface =>
    simp only at hv
    cases ok with
    | false => cases hv
    | true =>
      cases hv
      refine OpOK.still h (v' := .tuple #[z, .bool false]) ?_ (VR.tuple2 (VR.refl_plain hpz) (.bool _))
      cases d <;> first | (exact absurd rfl (hni _)) | simp [execOp, hop, hq', Instr.typeAssert, e0, e2]
  | _ => cases hv

theorem findN_mem {α : Type} {n : Nat} {a : α} : ∀ {l : List (Nat × α)}, findN n l = some a → (n, a) ∈ l
  | [], h => by cases h
  | (m, b) :: l, h => by
    simp only [findN] at h
    cases hb : Nat.beq m n with
    | true => rw [hb, cond_true] at h; cases h; rw [Nat.eq_of_beq_eq_true hb]; simp
    | false => rw [hb, cond_false] at h; exact List.mem_cons_of_mem _ (findN_mem h)

theorem hasTab_of {want : Array (String × TypeId)} {t : TypeId} {b : Bool} (h : findN t (hasTab P want) = some b) : ∃ i, P.info? t = some i ∧ b = (Instr.missingMethod want i.methods).isNone := by
  have := findN_mem h
  simp only [hasTab, List.mem_filterMap] at this
  obtain ⟨u, _, hu⟩ := this
  split at hu
  · rename_i i hi; cases hu; exact ⟨i, hi, rfl⟩
  · cases hu

theorem ok_tasI (h : HR P σ N H w) {xt a : TypeId} {x : Operand} {ok : Bool} {z : Value} {want : Array (String × TypeId)} (hop : o.op = .typeAssert x xt a ok) (hd : P.underlying a = some (.interface want)) (hz : zeroV P a = some z)
    (hx : VR σ (ρ x) (ρ' x)) {v : Value} {H' : Heap} (hv : oTasI (hasTab P want) z (ρ x) ok H = .val v H') : OpOK P σ N H w (execOp ρ' o) v H' := by
  obtain ⟨i, hi, hzz, hpz⟩ := zeroV_of hz
  have e0 := run_underlying (w := w) hd
  have e2 := run_zeroValue (w := w) hi hzz
  generalize hq : ρ x = q at hx hv
  generalize hq' : ρ' x = q' at hx
  unfold oTasI at hv
  cases hx with
  | iface t hvv =>
    rename_i u u'
    simp only at hv
    split at hv
    · rename_i hf
      obtain ⟨j, hj, hb⟩ := hasTab_of hf
      have e3 := run_typeInfo (w := w) hj
      have hm : Instr.missingMethod want j.methods = none := by simpa using hb.symm
      cases hv
      refine OpOK.still h (v' := bif ok then .tuple #[.iface t u', .bool true] else .iface t u') ?_ ?_
      · cases ok <;> simp [execOp, hop, hq', Instr.typeAssert, e0, e3, hm]
      · cases ok
        · exact .iface t hvv
        · exact VR.tuple2 (.iface t hvv) (.bool _)
    · rename_i hf
      obtain ⟨j, hj, hb⟩ := hasTab_of hf
      have e3 := run_typeInfo (w := w) hj
      cases hm : Instr.missingMethod want j.methods with
      | none => rw [hm] at hb; cases hb
      | some nm =>
        cases ok with
        | false => cases hv
        | true =>
          cases hv
          refine OpOK.still h (v' := .tuple #[z, .bool false]) ?_ (VR.tuple2 (VR.refl_plain hpz) (.bool _))
          simp [execOp, hop, hq', Instr.typeAssert, e0, e3, hm, e2]
    · cases hv
  | nilIface =>
    simp only at hv
    cases ok with
    | false => cases hv
    | true =>
      cases hv
      refine OpOK.still h (v' := .tuple #[z, .bool false]) ?_ (VR.tuple2 (VR.refl_plain hpz) (.bool _))
      simp [execOp, hop, hq', Instr.typeAssert, e0, e2]
  | _ => cases hv

theorem methTab_of {name : String} {t : TypeId} {f : FuncId} (h : findN t (methTab P name) = some f) : methOf P name t = some f := by
  have := findN_mem h
  simp only [methTab, List.mem_filterMap] at this
  obtain ⟨u, _, hu⟩ := this
  split at hu
  · rename_i g hg; cases hu; exact hg
  · cases hu

theorem method_run {name : String} {t : TypeId} {f : FuncId} {v : Value} (h : methOf P name t = some f) (n : Nat) : (method (n + 1) t v name).run P w = .ok (f, v) w := by
  unfold methOf at h
  split at h
  case h_2 => cases h
  rename_i i hi
  have e1 := run_typeInfo (w := w) hi
  split at h
  case h_2 => cases h
  rename_i m hm
  have hp0 : ∀ l, m.path.toList = l → l = [] → m.path = #[] := fun l h1 h2 => by apply Array.ext'; rw [h1, h2]
  split at h
  · rename_i hpa hfu hun
    cases h
    have e4 := run_underlying (w := w) hun
    have hp := hp0 _ hpa rfl
    simp only [method, Sem.run_bind, e1, Result.andThen_ok, hm, hp, follow, hfu]
    simp [receiverAt, e4, Place.get, follow]
  · cases h
  · rename_i d hnp hpa hfu hun
    cases h
    have e4 := run_underlying (w := w) hun
    have hp := hp0 _ hpa rfl
    simp only [method, Sem.run_bind, e1, Result.andThen_ok, hm, hp, follow, hfu]
    cases d <;> first | (exact absurd rfl (hnp _)) | simp [receiverAt, e4, Place.get, follow]
  · cases h

/-- An operation that calls. -/
theorem call_run {g : FuncId} (hcall : ∀ args w, (callFunc g args).run P w = .ok (.enter g args) w) {c : Call} {f : Operand} (hop : o.op = .call c) (hcal : c.callee = .value f) {first cap : Array Value}
    (hf : ρ' f = .func (.func g) first cap) : (execOp ρ' o).run P w = .ok (.enter g (first ++ c.args.map ρ' ++ cap)) w := by
  simp [execOp, hop, resolve, hcal, hf, Deferred.ofValue, invoke, hcall]

theorem yield_run {c : Call} {f : Operand} (hop : o.op = .call c) (hcal : c.callee = .value f) {l : Nat} (hf : ρ' f = .func (.yield l) #[] #[]) {n : Next} {w' : World}
    (hy : (Instr.yield l (c.args.map ρ')).run P w = .ok n w') : (execOp ρ' o).run P w = .ok n w' := by
  simp [execOp, hop, resolve, hcal, hf, Deferred.ofValue, invoke, hy]

/-- What an operation comes to in the model. -/
inductive OpSaid (P : Program) (σ : Ren) (N : Nat) (H : Heap) (w : World) (s : Sem Next) : ORes → Prop where
  | val {v : Value} {H' : Heap} (h : OpOK P σ N H w s v H') : OpSaid P σ N H w s (.val v H')
  | call {g : FuncId} {args : List Value} {args' : Array Value} (hr : (∀ args w, (callFunc g args).run P w = .ok (.enter g args) w) → s.run P w = .ok (.enter g args') w) (ha : VL σ args args'.toList) : OpSaid P σ N H w s (.call g args)
  | yield {l b : Nat} {args : List Value} {args' : Array Value} (hb : σ.obj l = some b) (hr : ∀ n w', (Instr.yield b args').run P w = .ok n w' → s.run P w = .ok n w') (ha : VL σ args args'.toList) : OpSaid P σ N H w s (.yield l args)
  | bad : OpSaid P σ N H w s .bad

theorem infoSz {e : TypeId} (h : 1 ≤ sizeT P e) : ∃ i, P.info? e = some i := by
  unfold sizeT at h
  split at h
  · exact ⟨_, by assumption⟩
  · omega

theorem zeroCells_flat {z : Array Value} (hz : 1 ≤ z.size) (n : Nat) : (Builtin.zeroCells z n).toList = (List.replicate n z.toList).flatten := by
  rw [show Builtin.zeroCells z n = ((List.replicate n z.toList).flatten).toArray from flat_eq hz n]

theorem ok_clr (h : HR P σ N H w) {c : Call} {x : Operand} {st e : TypeId} {z : List Value} (hop : o.op = .call c) (hcal : c.callee = .builtin .clear) (hargs : c.args = #[x]) (ht : c.argTypes[0]? = some st)
    (hd : P.underlying st = some (.slice e)) (hz : zeroT P e = some z) (hsz : 1 ≤ sizeT P e) (hx : VR σ (ρ x) (ρ' x)) {v : Value} {H' : Heap} (hv : oClr (sizeT P e) z (ρ x) H = .val v H') : OpOK P σ N H w (execOp ρ' o) v H' := by
  obtain ⟨i, zv, hi, hzv, rfl, hp, hs⟩ := zeroT_of hz
  have e1 := run_underlying (w := w) hd
  have e2 := fun w => run_zeroValue (P := P) (w := w) hi hzv
  rw [sizeT_of hi] at hsz
  unfold oClr at hv
  split at hv
  · rename_i n cp he
    cases hv
    have : ρ' x = .slice none n cp := by rw [he] at hx; generalize ρ' x = y at hx; cases hx; rfl
    exact OpOK.still h (v' := undef) (by simp [execOp, hop, resolve, hcal, hargs, invoke, builtin, Builtin.clear_, ht, e1, this, undef]) (VR.undef _)
  · rename_i a n cp he
    rw [he] at hx
    cases hb : Nat.beq n 0 with
    | true =>
      rw [hb, cond_true] at hv; cases hv
      have := Nat.eq_of_beq_eq_true hb
      subst this
      rcases hx.slice_inv with ⟨h1, _⟩ | ⟨a2, h1, a', c', hx', _⟩
      · cases h1
      · exact OpOK.still h (v' := undef) (by simp [execOp, hop, resolve, hcal, hargs, invoke, builtin, Builtin.clear_, ht, e1, hx', undef]) (VR.undef _)
    | false =>
      rw [hb, cond_false] at hv
      have hn : n ≠ 0 := fun e => by subst e; cases hb
      cases hw : H.writeN a (List.replicate n zv.cells.toList).flatten with
      | none => rw [hw] at hv; cases hv
      | some H2 =>
        rw [hw] at hv; cases hv
        rcases hx.slice_inv with ⟨h1, _⟩ | ⟨a2, h1, a', c', hx', hcase⟩
        · cases h1
        · cases h1
          rcases hcase with ⟨l, hA, _⟩ | ⟨rfl, rfl, _⟩
          · obtain ⟨w', q1, q2, q3⟩ := writeN_sound h hA (VL.refl_plain (by simpa using all_flat hp n)) hw
            have hfl : (Builtin.zeroCells zv.cells n).toList = (List.replicate n zv.cells.toList).flatten := zeroCells_flat (by omega) n
            exact ⟨σ, undef, w', .value undef, by simp [execOp, hop, resolve, hcal, hargs, invoke, builtin, Builtin.clear_, ht, e1, hx', e2, hfl, q1, undef], rfl, σ.le_refl, q2, VR.undef _, q3⟩
          · exact absurd rfl hn
  · cases hv

theorem ok_appZ (h : HR P σ N H w) {c : Call} {s x : Operand} {st xt e : TypeId} {z : List Value} (hop : o.op = .call c) (hcal : c.callee = .builtin .append) (hargs : c.args = #[s, x]) (ht : c.argTypes[0]? = some st)
    (ht2 : c.argTypes[1]? = some xt) (hd : P.underlying st = some (.slice e)) (hxt : P.underlying xt = some (.int .i64)) (hby : bytesT P e ≤ 1000000) (hz : zeroT P e = some z) (hsz : 1 ≤ sizeT P e)
    (hs : VR σ (ρ s) (ρ' s)) (hx : VR σ (ρ x) (ρ' x)) {v : Value} {H' : Heap} (hv : oAppZ e (sizeT P e) z (ρ s) (ρ x) H = .val v H') : OpOK P σ N H w (execOp ρ' o) v H' := by
  obtain ⟨i, zv, hi, hzv, rfl, hp, hzs⟩ := zeroT_of hz
  have hby' : i.bytes ≤ 1000000 := by rw [← bytesT_of hi]; exact hby
  have hsz1 := sizeT_of hi
  have hex : ∀ {r : Value} {w' : World}, (Builtin.append_ c.argTypes o.type #[ρ' s, ρ' x]).run P w = .ok r w' → (execOp ρ' o).run P w = .ok (.value r) w' := by
    intro r w' hr
    simp [execOp, hop, resolve, hcal, hargs, invoke, builtin, hr]
  unfold oAppZ at hv
  split at hv
  · rename_i n he1 he2
    rw [he1] at hs; rw [he2] at hx
    have hs' : ρ' s = .slice none 0 0 := by generalize ρ' s = y at hs; cases hs; rfl
    have hx' : ρ' x = .int .i64 (.ofNat n) := by generalize ρ' x = y at hx; cases hx; rfl
    cases hb : (Nat.ble 1 n && small (sizeT P e) n) with
    | false => rw [hb] at hv; cases hv
    | true =>
      rw [hb, cond_true] at hv; cases hv
      simp only [Bool.and_eq_true, small] at hb
      have q1 : 1 ≤ n := Nat.le_of_ble_eq_true hb.1
      have q2 : n ≤ 100000 := Nat.le_of_ble_eq_true hb.2.1.1
      have q3 : sizeT P e ≤ 1000 := Nat.le_of_ble_eq_true hb.2.2
      have hs1 : 1 ≤ i.size := by rw [← hsz1]; exact hsz
      obtain ⟨c', w', r1, r2, r3⟩ := run_append_zeros (w := w) (type := o.type) ht ht2 hd hxt hi hzv q1 q2 hby' hs1
      have hfl : (Builtin.zeroCells zv.cells n).toList = (List.replicate n zv.cells.toList).flatten := zeroCells_flat (by omega) n
      have hlen : ((List.replicate n zv.cells.toList).flatten).length = n * i.size := by
        rw [← hfl, Array.length_toList, zeroCells_size, hzs]
      obtain ⟨τ, l, p1, p2, p3, p4, p5⟩ := row_sound h (e := e) (ls := (List.replicate n zv.cells.toList).flatten) (ls' := (List.replicate n zv.cells.toList).flatten) (VL.refl_plain (all_flat hp n)) (cs := Builtin.zeroCells zv.cells n ++ Builtin.zeroCells zv.cells (c' - n)) (fun j y hj => by
        have hj' : j < ((List.replicate n zv.cells.toList).flatten).length := (List.getElem?_eq_some_iff.1 hj).1
        rw [Array.getElem?_append_left (by rw [zeroCells_size, hzs]; omega), ← Array.getElem?_toList, hfl]
        exact hj) (by rw [hlen, Array.size_append, zeroCells_size, hzs]; omega) r3
      refine ⟨τ, _, w', _, hex (by rw [hs', hx']; exact r2), rfl, p1, p2, ?_, p3⟩
      refine .slO _ _ _ p4 ?_ r1 q3
      rw [p5]
      simp only [Array.size_append, zeroCells_size, hzs]
      rw [hsz1]
      have : c' * i.size = n * i.size + (c' - n) * i.size := by rw [← Nat.add_mul]; congr 1; omega
      omega
  · cases hv

theorem catS_run {kd : Nat} {f : Value → ByteArray → Sem (ForInStep ByteArray)}
    (h0 : kd = 0 → ∀ n s, f (.int .u8 n) s = pure (.yield (s.push (UInt8.ofNat n.toNat)))) (h1 : kd = 1 → ∀ n s, f (.int .i32 n) s = pure (.yield (s ++ Utf8.encode n))) :
    ∀ (ls : List Value) (s : ByteArray) (v : Value), catS kd ls s = some v → ls.all plain1 = true ∧ ∃ t, v = .string t ∧ (forIn ls s f).run P w = .ok t w
  | [], s, v, h => by simp only [catS, Option.some.injEq] at h; subst h; exact ⟨rfl, _, rfl, by simp⟩
  | c :: ls, s, v, h => by
    cases c with
    | int k n =>
      simp only [catS] at h
      cases hk : (Nat.beq kd 0 && decide (k = IntKind.u8)) with
      | true =>
        rw [hk, cond_true] at h
        simp only [Bool.and_eq_true] at hk
        have e1 := Nat.eq_of_beq_eq_true hk.1
        have hk' : k = .u8 := of_decide_eq_true hk.2
        subst hk'
        obtain ⟨q1, t, q2, q3⟩ := catS_run h0 h1 ls _ v h
        refine ⟨by rw [List.all_cons, q1]; rfl, t, q2, ?_⟩
        rw [List.forIn_cons, h0 e1]
        simpa using q3
      | false =>
        rw [hk, cond_false] at h
        cases hk2 : (Nat.beq kd 1 && decide (k = IntKind.i32)) with
        | true =>
          rw [hk2, cond_true] at h
          simp only [Bool.and_eq_true] at hk2
          have e1 := Nat.eq_of_beq_eq_true hk2.1
          have hk' : k = .i32 := of_decide_eq_true hk2.2
          subst hk'
          obtain ⟨q1, t, q2, q3⟩ := catS_run h0 h1 ls _ v h
          refine ⟨by rw [List.all_cons, q1]; rfl, t, q2, ?_⟩
          rw [List.forIn_cons, h1 e1]
          simpa using q3
        | false => rw [hk2] at h; cases h
    | _ => simp [catS] at h

theorem bytes_run {a : Addr} {n c : Nat} {l : List Value} {v : Value} (hl : (loadCells a n).run P w = .ok l.toArray w) (hv : catS 0 l .empty = some v) : (Conv.bytesToString (.slice (some a) n c)).run P w = .ok v w := by
  have H : ∀ f : Value → ByteArray → Sem (ForInStep ByteArray), (∀ n s, f (.int .u8 n) s = pure (.yield (s.push (UInt8.ofNat n.toNat)))) →
      (do let x ← loadCells a n; let s ← forIn x ByteArray.empty f; pure (Value.string s) : Sem Value).run P w = .ok v w := fun f hf => by
    obtain ⟨_, t, rfl, q3⟩ := catS_run (P := P) (w := w) (fun _ => hf) (fun h => by cases h) l _ v hv
    simp only [Sem.run_bind, hl, Result.andThen_ok, List.forIn_toArray, q3, Sem.run_pure]
  exact H _ (fun _ _ => rfl)

theorem runes_run {a : Addr} {n c : Nat} {l : List Value} {v : Value} (hl : (loadCells a n).run P w = .ok l.toArray w) (hv : catS 1 l .empty = some v) : (Conv.runesToString (.slice (some a) n c)).run P w = .ok v w := by
  have H : ∀ f : Value → ByteArray → Sem (ForInStep ByteArray), (∀ n s, f (.int .i32 n) s = pure (.yield (s ++ Utf8.encode n))) →
      (do let x ← loadCells a n; let s ← forIn x ByteArray.empty f; pure (Value.string s) : Sem Value).run P w = .ok v w := fun f hf => by
    obtain ⟨_, t, rfl, q3⟩ := catS_run (P := P) (w := w) (fun h => by cases h) (fun _ => hf) l _ v hv
    simp only [Sem.run_bind, hl, Result.andThen_ok, List.forIn_toArray, q3, Sem.run_pure]
  exact H _ (fun _ _ => rfl)

theorem plain_eq {ls ls' : List Value} (h : VL σ ls ls') (hp : ls.all plain1 = true) : ls' = ls := by
  induction h with
  | nil => rfl
  | cons h _ ih =>
    simp only [List.all_cons, Bool.and_eq_true] at hp
    rw [h.plain1_ hp.1, ih hp.2]

theorem readN_zero {H : Heap} {a : Addr} {ls : List Value} (h : H.readN a 0 = some ls) : ls = [] := by
  unfold Heap.readN at h
  split at h
  · split at h
    · obtain ⟨_, hc⟩ := bif_some h
      simp only [readL, Option.some.injEq] at hc; exact hc.symm
    · cases h
  · cases h

theorem ok_cts (h : HR P σ N H w) {a b : TypeId} {x : Operand} {kd : Nat} (hop : o.op = .convert a b x) (hk : cvtK P a b = some kd) (hx : VR σ (ρ x) (ρ' x)) {v : Value} {H' : Heap} (hv : oCts kd (ρ x) H = .val v H') : OpOK P σ N H w (execOp ρ' o) v H' := by
  unfold cvtK at hk
  split at hk
  · rename_i e hb ha
    have e1 := run_underlying (w := w) hb
    have e2 := run_underlying (w := w) ha
    have key : ∀ {he : TypeDesc}, P.underlying e = some he → (he = .int .u8 ∧ kd = 0 ∨ he = .int .i32 ∧ kd = 1) → OpOK P σ N H w (execOp ρ' o) v H' := by
      intro he hd hcase
      have e3 := run_underlying (w := w) hd
      unfold oCts at hv
      split at hv
      · rename_i n cp hr
        cases hv
        have : ρ' x = .slice none n cp := by rw [hr] at hx; generalize ρ' x = y at hx; cases hx; rfl
        rcases hcase with ⟨rfl, _⟩ | ⟨rfl, _⟩
        · exact OpOK.still h (v' := .string .empty) (by simp [execOp, hop, convert, e1, e2, e3, this, Conv.bytesToString]) (.string _)
        · exact OpOK.still h (v' := .string .empty) (by simp [execOp, hop, convert, e1, e2, e3, this, Conv.runesToString]) (.string _)
      · rename_i a0 n cp hr
        split at hv
        · rename_i ls hls
          obtain ⟨hc, rfl⟩ := asVal_val hv
          rw [hr] at hx
          rcases hx.slice_inv with ⟨h1, _⟩ | ⟨a2, h1, a', c', hx', hcs⟩
          · cases h1
          · cases h1
            obtain ⟨q1, t, rfl, _⟩ := catS_run (P := P) (w := w) (kd := kd) (f := fun c s => match kd, c with | 0, .int .u8 n => pure (.yield (s.push (UInt8.ofNat n.toNat))) | 1, .int .i32 n => pure (.yield (s ++ Utf8.encode n)) | _, _ => pure (.yield s))
              (fun h n s => by subst h; rfl) (fun h n s => by subst h; rfl) ls _ v hc
            have hload : (loadCells a' n).run P w = .ok ls.toArray w := by
              rcases hcs with ⟨l, hA, _⟩ | ⟨rfl, rfl, _⟩
              · obtain ⟨hl, ls', hrun, hvl⟩ := readN_sound h hA hls
                rw [← plain_eq hvl q1]
                exact hrun w rfl
              · rw [readN_zero hls]
                exact run_loadCells_list (P := P) w a' [] (fun j v hj => by simp at hj)
            rcases hcase with ⟨rfl, rfl⟩ | ⟨rfl, rfl⟩
            · exact OpOK.still h (v' := .string t) (by simp [execOp, hop, convert, e1, e2, e3, hx', bytes_run hload hc]) (.string _)
            · exact OpOK.still h (v' := .string t) (by simp [execOp, hop, convert, e1, e2, e3, hx', runes_run hload hc]) (.string _)
        · cases hv
      · cases hv
    split at hk
    · rename_i hd; cases hk; exact key hd (.inl ⟨rfl, rfl⟩)
    · rename_i hd; cases hk; exact key hd (.inr ⟨rfl, rfl⟩)
    · cases hk
  · cases hk

theorem opA_val (h : HR P σ N H w) {ao : AOp} (hp : prepOp P o = some ao) (hρ : ∀ x ∈ o.op.operands.toList, VR σ (ρ x) (ρ' x)) (hc : ∀ v, ρ (.const v) = v) {v : Value} {H' : Heap} (hv : opA P ao ρ H = .val v H') :
    OpOK P σ N H w (execOp ρ' o) v H' := by
  unfold prepOp at hp
  split at hp
  case h_1 x hop => cases hp; simp only [opA] at hv; cases hv; exact OpOK.still h (v' := ρ' x) (by simp [execOp, hop]) (hρ x (by simp [hop, Op.operands]))
  case h_2 x hop => cases hp; simp only [opA] at hv; cases hv; exact OpOK.still h (v' := ρ' x) (by simp [execOp, hop]) (hρ x (by simp [hop, Op.operands]))
  case h_3 c a b hop => cases hp; exact ok_pick h hop (hρ c (by simp [hop, Op.operands])) (hρ a (by simp [hop, Op.operands])) (hρ b (by simp [hop, Op.operands])) hv
  case h_4 e hop =>
    split at hp
    · rename_i z hz; cases hp; simp only [opA, oNew] at hv; cases hv; exact ok_alloc h hop hz
    · cases hp
  case h_5 e x hop => cases hp; simp only [opA, oNew] at hv; cases hv; exact ok_box h hop (hρ x (by simp [hop, Op.operands]))
  case h_6 t x hop =>
    split at hp
    · rename_i d hd
      cases hp
      cases ha : isAggD d with
      | true => rw [ha, cond_true] at hv; exact ok_loadN h hop hd ha (hρ x (by simp [hop, Op.operands])) hv
      | false => rw [ha, cond_false] at hv; exact ok_load1 h hop hd ha (hρ x (by simp [hop, Op.operands])) hv
    · cases hp
  case h_7 t x y hop =>
    split at hp
    · rename_i i hi
      cases hp
      exact ok_store h hop (hρ x (by simp [hop, Op.operands])) (hρ y (by simp [hop, Op.operands])) hv ⟨_, hi⟩
    · cases hp
  case h_8 x hop => cases hp; exact ok_nil h hop (hρ x (by simp [hop, Op.operands])) hv
  case h_9 s x k hop =>
    split at hp
    · rename_i fs hd
      split at hp
      · rename_i f hf
        obtain ⟨hb, hp⟩ := bif_some hp
        cases hp
        exact ok_field h hop hd hf hb (hρ x (by simp [hop, Op.operands])) hv
      · cases hp
    · cases hp
  case h_10 t x ix hop =>
    split at hp
    · rename_i n e hd; obtain ⟨hb, hp⟩ := bif_some hp; cases hp; exact ok_idxA h hop hd (infoSz (Nat.le_of_ble_eq_true hb)) (hρ x (by simp [hop, Op.operands])) (hρ ix (by simp [hop, Op.operands])) hv
    · rename_i e hd; obtain ⟨hb, hp⟩ := bif_some hp; cases hp; exact ok_idxS h hop hd (infoSz (Nat.le_of_ble_eq_true hb)) (hρ x (by simp [hop, Op.operands])) (hρ ix (by simp [hop, Op.operands])) hv
    · cases hp
  case h_11 t x lo hi mx hop =>
    have h1 : ∀ y, lo = some y → VR σ (ρ y) (ρ' y) := fun y hy => hρ y (by simp [hop, Op.operands, hy])
    have h2 : ∀ y, hi = some y → VR σ (ρ y) (ρ' y) := fun y hy => hρ y (by simp [hop, Op.operands, hy])
    have h3 : ∀ y, mx = some y → VR σ (ρ y) (ρ' y) := fun y hy => hρ y (by simp [hop, Op.operands, hy])
    split at hp
    · rename_i n e hd; obtain ⟨hb, hp⟩ := bif_some hp; cases hp; exact ok_slA h hop hd (infoSz (Nat.le_of_ble_eq_true hb)) (hρ x (by simp [hop, Op.operands])) h1 h2 h3 hv
    · rename_i e hd; obtain ⟨hb, hp⟩ := bif_some hp; cases hp; exact ok_slS h hop hd (infoSz (Nat.le_of_ble_eq_true hb)) (hρ x (by simp [hop, Op.operands])) h1 h2 h3 hv
    · cases hp; exact ok_plain h (by simp [hop]) (fun x hx => hρ x (by simpa using hx)) hv
    · cases hp
  case h_12 t l c hop =>
    split at hp
    · rename_i e hd
      split at hp
      · rename_i z hz
        obtain ⟨hb, hp⟩ := bif_some hp
        cases hp
        simp only [Bool.and_eq_true] at hb
        exact ok_mkS h hop hd hz (Nat.le_of_ble_eq_true hb.1) (Nat.le_of_ble_eq_true hb.2) (hρ l (by simp [hop, Op.operands])) (hρ c (by simp [hop, Op.operands])) hv
      · cases hp
    · cases hp
  case h_13 t n parts hop =>
    have hps : ∀ p ∈ parts.toList, VR σ (ρ p.2) (ρ' p.2) := fun p hq => hρ p.2 (by simp only [hop, Op.operands]; simpa using ⟨p.1, by simpa using hq⟩)
    split at hp
    · rename_i e hd
      split at hp
      · rename_i z hz
        obtain ⟨hb, hp⟩ := bif_some hp
        cases hp
        simp only [Bool.and_eq_true] at hb
        exact ok_bldS h hop hd hz (Nat.le_of_ble_eq_true hb.1) (Nat.le_of_ble_eq_true hb.2) hps hv
      · cases hp
    · cases hp
  case h_14 t parts hop =>
    have hps : ∀ p ∈ parts.toList, VR σ (ρ p.2) (ρ' p.2) := fun p hq => hρ p.2 (by simp only [hop, Op.operands]; simpa using ⟨p.1, by simpa using hq⟩)
    split at hp
    · rename_i fs z hd hz
      split at hp
      · rename_i pl hpl; cases hp; exact ok_bldT h hop hd hz hpl hps hv
      · cases hp
    · rename_i n e z hd hz
      split at hp
      · rename_i i hi; cases hp; exact ok_bldA h hop hd hz hi hps hv
      · cases hp
    · cases hp
  case h_15 t x k hop =>
    split at hp
    · rename_i fs hd
      split at hp
      · rename_i f hf
        split at hp
        · rename_i n hn
          cases hp
          unfold partN at hn
          split at hn
          · rename_i d hd2; cases hn; exact ok_fld h hop hd hf hd2 (hρ x (by simp [hop, Op.operands])) hv
          · cases hn
        · cases hp
      · cases hp
    · cases hp
  case h_16 t x ix hop =>
    split at hp
    · rename_i n e hd
      unfold partN at hp
      cases hd2 : P.underlying e with
      | none => rw [hd2] at hp; cases hp
      | some d =>
        rw [hd2] at hp
        cases ha : isAggD d with
        | true =>
          simp only [ha, cond_true] at hp; cases hp
          exact ok_idx h hop hd hd2 (hρ x (by simp [hop, Op.operands])) (hρ ix (by simp [hop, Op.operands])) (by rw [ha]; exact hv)
        | false =>
          simp only [ha, cond_false] at hp; cases hp
          exact ok_idx h hop hd hd2 (hρ x (by simp [hop, Op.operands])) (hρ ix (by simp [hop, Op.operands])) (by rw [ha]; exact hv)
    · cases hp; exact ok_plain h (by simp [hop]) (fun x hx => hρ x (by simpa using hx)) hv
    · cases hp
  case h_17 x k hop => cases hp; exact ok_ext h hop (hρ x (by simp [hop, Op.operands])) hv
  case h_18 f a b hop =>
    split at hp
    · cases hp
    · rename_i hf
      cases hp
      simp only [opA] at hv; cases hv
      exact ok_mkF h hop hf (fun x hx => hρ x (by simp only [hop, Op.operands, Array.toList_append]; exact List.mem_append_left _ hx)) (fun x hx => hρ x (by simp only [hop, Op.operands, Array.toList_append]; exact List.mem_append_right _ hx))
  case h_19 t x hop =>
    split at hp
    · cases hp
    · rename_i d hni hd
      cases hp
      simp only [opA] at hv; cases hv
      exact ok_mkI h hop hd (fun m hm => hni m hm) (hρ x (by simp [hop, Op.operands]))
    · cases hp
  case h_20 op t x y u hop =>
    have hx := hρ x (by simp [hop, Op.operands])
    have hy := hρ y (by simp [hop, Op.operands])
    have hpl : ∀ {H'}, oPlain P o ρ H = .val v H' → OpOK P σ N H w (execOp ρ' o) v H' := fun hv => ok_plain h (by simp [hop]) (fun x hx => hρ x (by simpa using hx)) hv
    split at hp
    · cases hp; exact hpl hv
    · cases hp; exact hpl hv
    · rename_i hd hn1 hn2; cases hp; exact ok_ibin h hop ⟨hn1, hn2⟩ hx hy hv
    · rename_i d _ hd
      split at hp
      · rename_i k hk; cases hp; exact ok_nilEq h hop hd (.inl ⟨rfl, rfl⟩) hk hy (fun v hv => by rw [hv]; exact hc v) hx hv
      · cases hp; exact hpl hv
    · rename_i d _ hd
      split at hp
      · rename_i k hk; cases hp; exact ok_nilEq h hop hd (.inr ⟨rfl, rfl⟩) hk hy (fun v hv => by rw [hv]; exact hc v) hx hv
      · cases hp; exact hpl hv
    · cases hp; exact hpl hv
    · cases hp
  case h_21 op t x hop =>
    cases hp
    cases op with
    | not => exact ok_not h hop (hρ x (by simp [hop, Op.operands])) hv
    | _ => exact ok_plain h (by simp [hop]) (fun x hx => hρ x (by simpa using hx)) hv
  case h_22 a b x hop =>
    split at hp
    · rename_i kd hk; cases hp; exact ok_cts h hop hk (hρ x (by simp [hop, Op.operands])) hv
    · cases hp; exact ok_plain h (by simp [hop]) (fun x hx => hρ x (by simpa using hx)) hv
  case h_23 c hop =>
    have hpl : ∀ {H'}, oPlain P o ρ H = .val v H' → OpOK P σ N H w (execOp ρ' o) v H' := fun hv => ok_plain h (by simp [hop]) (fun x hx => hρ x (by simpa using hx)) hv
    have hargs : ∀ x ∈ c.args.toList, VR σ (ρ x) (ρ' x) := fun x hx => hρ x (by simp only [hop, Op.operands, Call.operands, Array.toList_append]; exact List.mem_append_right _ hx)
    split at hp
    · cases hp; simp [opA] at hv
    · cases hp
      simp only [opA, callVA] at hv
      split at hv
      · cases hv
      · rename_i l first cap _
        cases hb : (first.isEmpty && cap.isEmpty) with
        | true => rw [hb] at hv; cases hv
        | false => rw [hb] at hv; cases hv
      · cases hv
    · cases hp
      simp only [opA, oInv] at hv
      split at hv
      · split at hv <;> cases hv
      · cases hv
    · rename_i hcal
      split at hp
      · rename_i s x st xt ha ht ht2
        split at hp
        · rename_i e hd
          have ha' : c.args = #[s, x] := by apply Array.ext'; simpa using ha
          split at hp
          · rename_i hxt
            split at hp
            · rename_i z hz
              obtain ⟨hb, hp⟩ := bif_some hp
              cases hp
              simp only [Bool.and_eq_true] at hb
              exact ok_appZ h hop hcal ha' ht ht2 hd hxt (Nat.le_of_ble_eq_true hb.1) hz (Nat.le_of_ble_eq_true hb.2) (hargs s (by simp [ha'])) (hargs x (by simp [ha'])) hv
            · cases hp
          · obtain ⟨hb, hp⟩ := bif_some hp
            cases hp
            simp only [Bool.and_eq_true] at hb
            cases hz : zeroT P e with
            | none => rw [hz] at hb; simp at hb
            | some z => exact ok_append h hop hcal ha' ht ht2 hd hb.1.2 (Nat.le_of_ble_eq_true hb.1.1) hz (hargs s (by simp [ha'])) (hargs x (by simp [ha'])) hv
        · cases hp
      · cases hp
    · rename_i hcal
      split at hp
      · rename_i s x st ha ht
        split at hp
        · rename_i e hd
          obtain ⟨hb, hp⟩ := bif_some hp
          cases hp
          have ha' : c.args = #[s, x] := by apply Array.ext'; simpa using ha
          exact ok_copy h hop hcal ha' ht hd (infoSz (Nat.le_of_ble_eq_true hb)) (hargs s (by simp [ha'])) (hargs x (by simp [ha'])) hv
        · cases hp
      · cases hp
    · rename_i hcal
      split at hp
      · rename_i x st ha ht
        split at hp
        · rename_i e hd
          cases hp
          have ha' : c.args = #[x] := by apply Array.ext'; simpa using ha
          exact ok_len h hop hcal ha' ht hd (hargs x (by simp [ha'])) hv
        · rename_i kt et hd
          cases hp
          have ha' : c.args = #[x] := by apply Array.ext'; simpa using ha
          exact ok_mlen h hop hcal ha' ht hd (hargs x (by simp [ha'])) hv
        · cases hp; exact hpl hv
      · cases hp
    · rename_i hcal
      split at hp
      · rename_i x st ha ht
        split at hp
        · rename_i e hd
          split at hp
          · rename_i z hz
            obtain ⟨hb, hp⟩ := bif_some hp
            cases hp
            have ha' : c.args = #[x] := by apply Array.ext'; simpa using ha
            exact ok_clr h hop hcal ha' ht hd hz (Nat.le_of_ble_eq_true hb) (hargs x (by simp [ha'])) hv
          · cases hp
        · cases hp
      · cases hp
    · rename_i hcal
      split at hp
      · rename_i x k st ha ht
        split at hp
        · rename_i n z hmk
          cases hp
          have ha' : c.args = #[x, k] := by apply Array.ext'; simpa using ha
          exact ok_mdel h hop hcal ha' ht hmk (hargs x (by simp [ha'])) (hargs k (by simp [ha'])) hv
        · cases hp
      · cases hp
    · rename_i hcal
      split at hp
      · rename_i x st ha ht
        split at hp
        · rename_i e hd
          cases hp
          have ha' : c.args = #[x] := by apply Array.ext'; simpa using ha
          exact ok_cap h hop hcal ha' ht hd (hargs x (by simp [ha'])) hv
        · cases hp
      · cases hp
    · cases hp; exact hpl hv
    · cases hp; exact hpl hv
    · cases hp
  case h_24 x xt a ok hop =>
    have hx := hρ x (by simp [hop, Op.operands])
    split at hp
    · rename_i want hd
      split at hp
      · rename_i z hz; cases hp; exact ok_tasI h hop hd hz hx hv
      · cases hp
    · rename_i d hni hd
      split at hp
      · rename_i z hz; cases hp; exact ok_tas h hop hd (fun m hm => hni m hm) hz hx hv
      · cases hp
    · cases hp
  case h_25 t r hop =>
    split at hp
    · rename_i k e hd; cases hp; exact ok_mkM h hop hd (fun y hy => hρ y (by simp [hop, Op.operands, hy])) hv
    · cases hp
  case h_26 t x k ok hop =>
    split at hp
    · rename_i n z hmk; cases hp; exact ok_mget h hop hmk (hρ x (by simp [hop, Op.operands])) (hρ k (by simp [hop, Op.operands])) hv
    · cases hp
  case h_27 t x k y hop =>
    split at hp
    · rename_i n z hmk; cases hp; exact ok_mput h (.inl hop) hmk (hρ x (by simp [hop, Op.operands])) (hρ k (by simp [hop, Op.operands])) (hρ y (by simp [hop, Op.operands])) hv
    · cases hp
  case h_28 t x k y hop =>
    split at hp
    · rename_i n z hmk; cases hp; exact ok_mput h (.inr hop) hmk (hρ x (by simp [hop, Op.operands])) (hρ k (by simp [hop, Op.operands])) (hρ y (by simp [hop, Op.operands])) hv
    · cases hp
  case h_29 t x k hop =>
    split at hp
    · rename_i n z hmk; cases hp; exact ok_ment h hop hmk (hρ x (by simp [hop, Op.operands])) (hρ k (by simp [hop, Op.operands])) hv
    · cases hp
  case h_30 t x s y hop => cases hp; exact ok_mset h hop (hρ x (by simp [hop, Op.operands])) (hρ s (by simp [hop, Op.operands])) (hρ y (by simp [hop, Op.operands])) hv
  case h_31 t x hop =>
    split at hp
    · rename_i hd; cases hp; exact ok_strIt h hop hd (hρ x (by simp [hop, Op.operands])) hv
    · cases hp
  case h_32 x hop => cases hp; exact ok_strNx h hop (hρ x (by simp [hop, Op.operands])) hv
  case h_33 => cases hp


theorem appendA_shape {e : TypeId} {sz : Nat} {H : Heap} {s x : Value} : (∀ g a, appendA e sz H s x ≠ .call g a) ∧ (∀ g a, appendA e sz H s x ≠ .yield g a) := by
  have hnew : ∀ n old new, (∀ g a, appNew e sz n H old new ≠ .call g a) ∧ (∀ g a, appNew e sz n H old new ≠ .yield g a) := by
    intro n old new
    unfold appNew
    split
    · constructor <;> intro g a <;> generalize (small sz n && _ && _ && _) = b <;> cases b <;> simp
    · simp
  have hin : ∀ base len n cap new, (∀ g a, appIn base sz len n cap H new ≠ .call g a) ∧ (∀ g a, appIn base sz len n cap H new ≠ .yield g a) := by
    intro base len n cap new
    unfold appIn
    split
    · split <;> simp
    · constructor <;> intro g a <;> cases Nat.beq n 0 <;> simp
  have hop : ∀ len n a new, (∀ g b, appOpen e sz len n a H new ≠ .call g b) ∧ (∀ g b, appOpen e sz len n a H new ≠ .yield g b) := by
    intro len n a new
    unfold appOpen
    split
    · split
      · constructor <;> intro g b
        all_goals (generalize (_ && _ : Bool) = q; cases q <;> simp)
      · simp
    · simp
  have hw : ∀ base len cap n s new, (∀ g a, appWith e sz H base len cap n s new ≠ .call g a) ∧ (∀ g a, appWith e sz H base len cap n s new ≠ .yield g a) := by
    intro base len cap n s new
    unfold appWith
    split
    · cases Nat.ble (len + n) _
      · exact hnew _ _ _
      · exact hin _ _ _ _ _
    · split
      · cases Nat.beq _ sz
        · simp
        · cases Nat.beq n 0
          · exact hop _ _ _ _
          · simp
      · simp
    · split
      · cases Nat.beq _ sz
        · simp
        · cases Nat.beq n 0
          · cases Nat.ble (len + n) _
            · simp only [cond_true, cond_false]; exact hop _ _ _ _
            · simp only [cond_true, cond_false]; exact hin _ _ _ _ _
          · simp
      · simp
  unfold appendA
  split
  · split
    · exact hw _ _ _ _ _ _
    · simp
  · simp

theorem prep_callF {g : FuncId} {xs : List Operand} (hp : prepOp P o = some (.callF g xs)) : ∃ c, o.op = .call c ∧ c.callee = .value (.func g) ∧ xs = c.args.toList := by
  unfold prepOp at hp
  split at hp
  case h_6 =>
    split at hp
    · rename_i d hd
      cases hb : isAggD d <;> simp [hb] at hp
    · cases hp
  case h_21 op _ _ _ => cases op <;> cases hp
  case h_23 c hop =>
    split at hp
    · rename_i g' hcal; cases hp; exact ⟨_, hop, hcal, rfl⟩
    all_goals ((repeat' split at hp) <;> first | (cases hp; done) | (have hq := bif_some hp; cases hq.2; done))
  all_goals ((repeat' split at hp) <;> first | (cases hp; done) | (have hq := bif_some hp; cases hq.2; done))

theorem prep_callV {f : Operand} {xs : List Operand} (hp : prepOp P o = some (.callV f xs)) : ∃ c, o.op = .call c ∧ c.callee = .value f ∧ xs = c.args.toList := by
  unfold prepOp at hp
  split at hp
  case h_6 =>
    split at hp
    · rename_i d hd
      cases hb : isAggD d <;> simp [hb] at hp
    · cases hp
  case h_21 op _ _ _ => cases op <;> cases hp
  case h_23 c hop =>
    split at hp
    · cases hp
    · rename_i hcal; cases hp; exact ⟨_, hop, hcal, rfl⟩
    all_goals ((repeat' split at hp) <;> first | (cases hp; done) | (have hq := bif_some hp; cases hq.2; done))
  all_goals ((repeat' split at hp) <;> first | (cases hp; done) | (have hq := bif_some hp; cases hq.2; done))

theorem prep_inv {tab : List (Nat × FuncId)} {x : Operand} {xs : List Operand} (hp : prepOp P o = some (.inv tab x xs)) : ∃ c name, o.op = .call c ∧ c.callee = .invoke x name ∧ xs = c.args.toList ∧ tab = methTab P name := by
  unfold prepOp at hp
  split at hp
  case h_6 =>
    split at hp
    · rename_i d hd
      cases hb : isAggD d <;> simp [hb] at hp
    · cases hp
  case h_21 op _ _ _ => cases op <;> cases hp
  case h_23 c hop =>
    split at hp
    · cases hp
    · cases hp
    · rename_i hcal; cases hp; exact ⟨_, _, hop, hcal, rfl, rfl⟩
    all_goals ((repeat' split at hp) <;> first | (cases hp; done) | (have hq := bif_some hp; cases hq.2; done))
  all_goals ((repeat' split at hp) <;> first | (cases hp; done) | (have hq := bif_some hp; cases hq.2; done))

theorem made_succ (n : Nat) : ∃ m, n + Made.depth = m + 1 := ⟨n + (Made.depth - 1), rfl⟩

theorem inv_run {g : FuncId} (hcall : ∀ args w, (callFunc g args).run P w = .ok (.enter g args) w) {c : Call} {x : Operand} {name : String} (hop : o.op = .call c) (hcal : c.callee = .invoke x name) {t : TypeId} {v : Value}
    (hx : ρ' x = .iface t v) (hm : methOf P name t = some g) : (execOp ρ' o).run P w = .ok (.enter g (#[v] ++ c.args.map ρ')) w := by
  obtain ⟨m, hm2⟩ := made_succ P.types.size
  have e1 := method_run (P := P) (w := w) (v := v) hm m
  have e2 : (#[Value.iface t v] ++ c.args.map ρ').extract 1 (#[Value.iface t v] ++ c.args.map ρ').size = c.args.map ρ' := by
    rw [show (#[Value.iface t v] ++ c.args.map ρ').size = c.args.size + 1 by simp; omega]
    apply Array.ext'
    simp
    exact List.take_of_length_le (by simp)
  have e3 : (#[Value.iface t v] ++ c.args.map ρ')[0]? = some (.iface t v) := by rw [Array.getElem?_append_left (by simp)]; rfl
  have e5 : (c.args.map ρ').extract 0 c.args.size = c.args.map ρ' := by apply Array.ext'; simp; exact List.take_of_length_le (by simp)
  have e4 : (program : Sem Program).run P w = .ok P w := rfl
  simp [execOp, hop, resolve, hcal, invoke, hx, e3, e2, callMethod, e4, hm2, e1, hcall, e5]

/-- Neither a call nor a round. -/
def Quiet (r : ORes) : Prop := (∀ g a, r ≠ .call g a) ∧ (∀ l a, r ≠ .yield l a)

theorem asVal_shape {H : Heap} {x : Option Value} : Quiet (asVal H x) := by
  cases x <;> simp [asVal, Quiet]
theorem asPlain_shape {H : Heap} {x : Option Value} : Quiet (asPlain H x) := by
  cases x with
  | none => simp [asPlain, Quiet]
  | some v => simp only [asPlain]; cases plainV v <;> simp [Quiet]

theorem quiet_val (v : Value) (H : Heap) : Quiet (.val v H) := by simp [Quiet]
theorem quiet_bad : Quiet .bad := by simp [Quiet]
theorem quiet_bif {b : Bool} {x y : ORes} (hx : Quiet x) (hy : Quiet y) : Quiet (bif b then x else y) := by cases b <;> assumption

theorem quiet_withMap {x : Value} {H : Heap} {k : Nat → List ME → Nat → ORes} (h : ∀ r l c, Quiet (k r l c)) : Quiet (withMap x H k) := by
  unfold withMap
  split
  · split
    · exact h _ _ _
    · exact quiet_bad
  · exact quiet_bad

theorem opA_quiet (P : Program) (ρ : Operand → Value) (H : Heap) (ao : AOp) (h1 : ∀ g xs, ao ≠ .callF g xs) (h2 : ∀ f xs, ao ≠ .callV f xs) (h3 : ∀ tab x xs, ao ≠ .inv tab x xs) : Quiet (opA P ao ρ H) := by
  cases ao with
  | callF g xs => exact absurd rfl (h1 _ _)
  | callV f xs => exact absurd rfl (h2 _ _)
  | inv tab x xs => exact absurd rfl (h3 _ _ _)
  | append e sz s x => exact appendA_shape
  | copy sz d x =>
    simp only [opA, copyA]
    split
    · split
      · exact quiet_bad
      · split
        · exact quiet_val _ _
        · exact quiet_val _ _
        · split
          · exact quiet_val _ _
          · exact quiet_bad
    · exact quiet_bad
  | _ =>
    simp only [opA, oPick, oNew, oLoad1, oLoadN, oStore, oNil, oField, oIdxA, oIdxS, oSlA, oSlS, oMkS, oBldS, oBld, oFld, oIdx, oExt, oIbin, oNilEq, oNot, oPlain, oLen, oTas, oTasI, oClr, oMkM, newMap, oMget, oMput, oMdel, oMlen, oMent, oMset, oStrIt, oStrNx, iterStep, oCts, oCap, oAppZ]
    repeat' first
      | (refine quiet_withMap (fun _ _ _ => ?_))
      | exact quiet_val _ _
      | exact quiet_bad
      | exact asVal_shape
      | exact asPlain_shape
      | (refine quiet_bif ?_ ?_)
      | (generalize H.writeN _ _ = q; cases q <;> simp [asSkip, Quiet]; done)
      | split

/-- Which operations call. -/
theorem opA_call {ao : AOp} (hp : prepOp P o = some ao) (hρ : ∀ x ∈ o.op.operands.toList, VR σ (ρ x) (ρ' x)) (hf : ∀ g, ρ' (.func g) = .func (.func g) #[] #[]) {g : FuncId} {args : List Value}
    (hv : opA P ao ρ H = .call g args) (hcall : ∀ args w, (callFunc g args).run P w = .ok (.enter g args) w) : ∃ args' : Array Value, (execOp ρ' o).run P w = .ok (.enter g args') w ∧ VL σ args args'.toList := by
  by_cases h1 : ∃ g xs, ao = .callF g xs
  · obtain ⟨g', xs, rfl⟩ := h1
    obtain ⟨c, hop, hcal, rfl⟩ := prep_callF hp
    simp only [opA] at hv; cases hv
    have hargs : ∀ x ∈ c.args.toList, VR σ (ρ x) (ρ' x) := fun x hx => hρ x (by simp only [hop, Op.operands, Call.operands, Array.toList_append]; exact List.mem_append_right _ hx)
    refine ⟨_, call_run hcall hop hcal (hf g), ?_⟩
    simpa using VL.map_ρ hargs
  · by_cases h2 : ∃ f xs, ao = .callV f xs
    · obtain ⟨f, xs, rfl⟩ := h2
      obtain ⟨c, hop, hcal, rfl⟩ := prep_callV hp
      have hargs : ∀ x ∈ c.args.toList, VR σ (ρ x) (ρ' x) := fun x hx => hρ x (by simp only [hop, Op.operands, Call.operands, Array.toList_append]; exact List.mem_append_right _ hx)
      have hfv := hρ f (by simp [hop, Op.operands, Call.operands, hcal])
      simp only [opA, callVA] at hv
      split at hv
      · rename_i g' first cap he
        cases hv
        rw [he] at hfv
        generalize hy : ρ' f = y at hfv
        cases hfv with
        | fn f' hf' hx hxs hy2 hys =>
          refine ⟨_, call_run hcall hop hcal hy, ?_⟩
          simp only [Array.toList_append, Array.toList_map]
          exact ((VL.of_array hx hxs).append (VL.map_ρ hargs)).append (VL.of_array hy2 hys)
      · rename_i l first cap _
        cases hb : (first.isEmpty && cap.isEmpty) with
        | true => rw [hb] at hv; cases hv
        | false => rw [hb] at hv; cases hv
      · cases hv
    · by_cases h3 : ∃ tab x xs, ao = .inv tab x xs
      · obtain ⟨tab, x, xs, rfl⟩ := h3
        obtain ⟨c, name, hop, hcal, rfl, rfl⟩ := prep_inv hp
        have hargs : ∀ x ∈ c.args.toList, VR σ (ρ x) (ρ' x) := fun x hx => hρ x (by simp only [hop, Op.operands, Call.operands, Array.toList_append]; exact List.mem_append_right _ hx)
        have hxv := hρ x (by simp [hop, Op.operands, Call.operands, hcal])
        simp only [opA, oInv] at hv
        split at hv
        · rename_i t v he
          split at hv
          · rename_i f hf
            cases hv
            rw [he] at hxv
            generalize hy : ρ' x = y at hxv
            cases hxv with
            | iface t hvv =>
              refine ⟨_, inv_run hcall hop hcal hy (methTab_of hf), ?_⟩
              simp only [Array.toList_append, Array.toList_map]
              exact .cons hvv (VL.map_ρ hargs)
          · cases hv
        · cases hv
      · exact absurd hv ((opA_quiet P ρ H ao (fun g xs he => h1 ⟨g, xs, he⟩) (fun f xs he => h2 ⟨f, xs, he⟩) (fun tab x xs he => h3 ⟨tab, x, xs, he⟩)).1 _ _)

theorem opA_yield {ao : AOp} (hp : prepOp P o = some ao) (hρ : ∀ x ∈ o.op.operands.toList, VR σ (ρ x) (ρ' x)) {l : Nat} {args : List Value}
    (hv : opA P ao ρ H = .yield l args) : ∃ (b : Nat) (args' : Array Value), σ.obj l = some b ∧ VL σ args args'.toList ∧ ∀ n w', (Instr.yield b args').run P w = .ok n w' → (execOp ρ' o).run P w = .ok n w' := by
  by_cases h1 : ∃ g xs, ao = .callF g xs
  · obtain ⟨g', xs, rfl⟩ := h1
    simp only [opA] at hv; cases hv
  · by_cases h2 : ∃ f xs, ao = .callV f xs
    · obtain ⟨f, xs, rfl⟩ := h2
      obtain ⟨c, hop, hcal, rfl⟩ := prep_callV hp
      have hargs : ∀ x ∈ c.args.toList, VR σ (ρ x) (ρ' x) := fun x hx => hρ x (by simp only [hop, Op.operands, Call.operands, Array.toList_append]; exact List.mem_append_right _ hx)
      have hfv := hρ f (by simp [hop, Op.operands, Call.operands, hcal])
      simp only [opA, callVA] at hv
      split at hv
      · cases hv
      · rename_i l first cap he
        cases hb : (first.isEmpty && cap.isEmpty) with
        | false => rw [hb] at hv; cases hv
        | true =>
          rw [hb, cond_true] at hv; cases hv
          rw [he] at hfv
          generalize hy : ρ' f = y at hfv
          cases hfv with
          | fn f' hf' => exact absurd rfl (hf' _)
          | yld hb2 => exact ⟨_, _, hb2, by simpa using VL.map_ρ hargs, fun n w' hr => yield_run hop hcal hy hr⟩
      · cases hv
    · by_cases h3 : ∃ tab x xs, ao = .inv tab x xs
      · obtain ⟨tab, x, xs, rfl⟩ := h3
        simp only [opA, oInv] at hv
        split at hv
        · split at hv <;> cases hv
        · cases hv
      · exact absurd hv ((opA_quiet P ρ H ao (fun g xs he => h1 ⟨g, xs, he⟩) (fun f xs he => h2 ⟨f, xs, he⟩) (fun tab x xs he => h3 ⟨tab, x, xs, he⟩)).2 _ _)

end
end Go.Abs
