/- The evaluator is sound. -/
import Derived.Test.YtdlfikobjnjmaaaAbsMach
import Derived.RangeFuncRecord
namespace Go.Abs
set_option linter.unusedSectionVars false
variable [Globs]
open Go
set_option linter.unusedVariables false
set_option linter.unusedSimpArgs false

section
variable {C : Ctx} {P : Program} {σ : Ren} {N nt : Nat} {s : St} {a : Act} {w : World} {H : Heap}

/-- One result. -/
def resOne (tmps : Array Value) : ResultVar → Sem Value
  | .tmp t => pure (tmps.getD t undef)
  | .cell a t => do loadVar t (← asAddr (tmps.getD a undef))

theorem results_list (h : HR P σ N H w) {t : Tr Value} {tmps : Array Value} (ht : TR σ nt t tmps) : ∀ (l : List ResultVar) (rs : List PRes) (vs : List Value), prepRes P l = some rs → resultOf t H rs = some vs →
    ∃ vs', (l.mapM (resOne tmps)).run P w = .ok vs' w ∧ VL σ vs vs'
  | [], rs, vs, hp, hr => by
    simp only [prepRes, Option.some.injEq] at hp; subst hp
    simp only [resultOf, Option.some.injEq] at hr; subst hr
    exact ⟨[], by simp, .nil⟩
  | .tmp n :: l, rs, vs, hp, hr => by
    simp only [prepRes] at hp
    split at hp
    · rename_i r hr1
      cases hp
      simp only [resultOf] at hr
      split at hr
      · rename_i vs1 hv1
        cases hr
        obtain ⟨vs', q1, q2⟩ := results_list h ht l r vs1 hr1 hv1
        exact ⟨_ :: vs', by simp [List.mapM_cons, resOne, q1], .cons (ht.get n) q2⟩
      · cases hr
    · cases hp
  | .cell n ty :: l, rs, vs, hp, hr => by
    simp only [prepRes] at hp
    split at hp
    · rename_i d r hd hr1
      cases hp
      simp only [resultOf] at hr
      split at hr
      · rename_i ad vs1 he hv1
        have hx := ht.get n
        rw [he] at hx
        obtain ⟨a', lc, hx', hA⟩ := hx.ptr_inv
        obtain ⟨vs', q1, q2⟩ : ∃ vs', (l.mapM (resOne tmps)).run P w = .ok vs' w ∧ VL σ vs1 vs' := results_list h ht l r vs1 hr1 hv1
        have e1 := run_isAgg (w := w) hd
        split at hr
        · rename_i hk
          have hag : isAggD d = false := by cases hh : isAggD d with | false => rfl | true => rw [hh] at hk; cases hk
          rw [hag] at e1
          split at hr
          · rename_i v hv
            cases hr
            obtain ⟨x', hc, hvr⟩ := read_sound h hA hv
            refine ⟨x' :: vs', ?_, .cons hvr q2⟩
            simp [List.mapM_cons, resOne, hx', asAddr, loadVar, e1, hc, q1]
          · cases hr
        · rename_i m hk
          have hag : isAggD d = true := by cases hh : isAggD d with | true => rfl | false => rw [hh] at hk; cases hk
          rw [hag, cond_true] at hk; cases hk
          rw [hag] at e1
          split at hr
          · rename_i ls hv
            cases hr
            obtain ⟨hl, ls', hrun0, hvl⟩ := readN_sound h hA hv
            have hrun := hrun0 w rfl
            obtain ⟨i, hi⟩ := info_of hd
            rw [sizeT_of hi] at hrun
            have e2 := run_sizeOf (w := w) hi
            refine ⟨.agg ls'.toArray :: vs', ?_, .cons (VR.agg_list (by simpa using hvl)) q2⟩
            simp [List.mapM_cons, resOne, hx', asAddr, loadVar, e1, e2, hrun, q1]
          · cases hr
      · cases hr
    · cases hp

theorem results_sound (h : HR P σ N H w) {t : Tr Value} {tmps : Array Value} (ht : TR σ nt t tmps) {fn : Func} {rs : List PRes} (hp : prepRes P fn.results.toList = some rs) {v : Value} {H' : Heap}
    (hr : retVal H (resultOf t H rs) = some (.val v H')) : H' = H ∧ ∃ v', (results fn tmps).run P w = .ok v' w ∧ VR σ v v' := by
  cases ho : resultOf t H rs with
  | none => rw [ho] at hr; cases hr
  | some vs =>
    rw [ho] at hr
    obtain ⟨vs', q1, q2⟩ := results_list h ht _ _ _ hp ho
    have e : (results fn tmps).run P w = .ok (if h : vs'.toArray.size = 1 then vs'.toArray[0] else .tuple vs'.toArray) w := by
      have : results fn tmps = (do
        let vs ← fn.results.mapM (resOne tmps)
        pure (if h : vs.size = 1 then vs[0] else .tuple vs)) := by
        unfold results
        congr 1
      rw [this, Array.mapM_eq_mapM_toList]
      simp only [Sem.run_bind, Sem.run_map, q1, Result.andThen_ok, Sem.run_pure]
    unfold retVal at hr
    cases q2 with
    | nil =>
      cases hr
      exact ⟨rfl, _, e, VR.tuple_list .nil⟩
    | cons h1 k1 =>
      cases k1 with
      | nil =>
        cases hr
        exact ⟨rfl, _, e, h1⟩
      | cons h2 k2 =>
        cases hr
        refine ⟨rfl, _, e, ?_⟩
        rw [dif_neg (by simp)]
        exact VR.tuple_list (.cons h1 (.cons h2 k2))

theorem step_takeDeferred {b : Frame} {cs : List Frame} {blk : Nat} {ds : List Deferred} (hm : b.mode = .returning) (hd : b.defers = { target := .collected blk, args := #[] } :: ds) (h : w.heap[blk]? = some (.deferred (some []))) :
    Go.step P (lone b cs w) = .next (lone { b with defers := ds } cs (w.putObj blk (.deferred none))) :=
  step_lone_go (by simp [stepG, unwind, hm, hd, Sem.runT_eq, run_takeDeferred h])

/-- The marks of the loops that a call has begun are taken. -/
theorem take_sound (H' : Heap) : ∀ (d : List Nat) (H : Heap) (w : World) (ds : List Deferred) (b : Frame), HR P σ N H w → DR σ d ds → takeAll H d = some H' → b.mode = .returning → b.defers = ds → ∀ cs,
    ∃ w', HR P σ N H' w' ∧ Fr σ H w σ H' w' ∧ Steps P (lone b cs w) (lone { b with defers := [] } cs w')
  | [], H, w, ds, b, h, hd, ht, hm, hb, cs => by
    cases hd
    simp only [takeAll, Option.some.injEq] at ht; subst ht
    refine ⟨w, h, Fr.refl _ _ _, ?_⟩
    have : { b with defers := [] } = b := by rw [← hb]
    rw [this]; exact .refl _ _
  | n :: d, H, w, ds, b, h, hd, ht, hm, hb, cs => by
    cases hd with
    | cons hn hd =>
      rename_i blk ds
      simp only [takeAll] at ht
      split at ht
      · rename_i hg
        obtain ⟨b', o', q1, q2, q3, q4⟩ := h.objs n _ hg (by simp)
        rw [hn] at q1; cases q1
        cases q4
        obtain ⟨u1, u2⟩ := upd_sound h hg (by simp) (o2 := .defd true) (by simp) hn (.defd true)
        obtain ⟨w', r1, r2, r3⟩ := take_sound H' d (H.upd n (.defd true)) _ ds { b with defers := ds } u1 hd ht hm rfl cs
        exact ⟨w', r1, u2.trans r2, .head (step_takeDeferred hm hb q3) r3⟩
      · cases ht

theorem TR.enter {args : List Value} {args' : Array Value} (h : VL σ args args'.toList) {n : Nat} (hn : args.length ≤ n) : TR σ n (Tr.putL .nil 0 args) (args' ++ Array.replicate (n - args'.size) undef) := by
  have hl := h.length
  simp only [Array.length_toList] at hl
  refine ⟨by simp; omega, fun i => ?_⟩
  simp only [evalO, Tr.get_putL, Nat.zero_le, true_and, Nat.zero_add, Nat.sub_zero, Tr.get_nil]
  rw [Array.getD_eq_getD_getElem?]
  by_cases hi : i < args.length
  · have hi' : i < args'.size := hl ▸ hi
    obtain ⟨u, hu, hr⟩ := h.get i _ (List.getElem?_eq_getElem hi)
    rw [if_pos hi, List.getElem?_eq_getElem hi, Array.getElem?_append_left hi']
    have : args'[i]? = some u := by simpa using hu
    rw [this]; exact hr
  · have hi' : args'.size ≤ i := by rw [← hl]; exact Nat.le_of_not_lt hi
    rw [if_neg hi, Array.getElem?_append_right hi', Array.getElem?_replicate]
    by_cases hh : i - args'.size < n - args'.size
    · rw [if_pos hh]; exact VR.undef σ
    · rw [if_neg hh]; exact VR.undef σ

/-- The end of a call. -/
theorem leave_sound {s : St} {rs : List PRes} {fn : Func} {f : FuncId} (hP : P.funcs[f]? = some fn) (hrs : prepRes P fn.results.toList = some rs) {v : Value} {H' : Heap} (hs : leaveC rs s (takeAll s.H s.d) = some (.val v H')) (h : At P σ N nt s a w)
    {b : Frame} (hm : b.mode = .returning) (hf : b.fn = f) (hk : b.kind = .normal) (ht : b.tmps = a.tmps) (hd : b.defers = a.defers) (cs : List Frame) :
    ∃ w' v' fr, HR P σ N H' w' ∧ VR σ v v' ∧ Fr σ s.H w σ H' w' ∧ Steps P (lone b cs w) (lone fr cs w') ∧ fr.fn = f ∧ fr.leaving P w' (.returned v') := by
  cases htk : takeAll s.H s.d with
  | none => rw [htk] at hs; cases hs
  | some H1 =>
    rw [htk] at hs
    simp only [leaveC] at hs
    obtain ⟨w1, r1, r2, r3⟩ := take_sound H1 s.d s.H w a.defers b h.heap h.defers htk hm hd cs
    obtain ⟨rfl, v', e, hv⟩ := results_sound r1 h.tmps hrs hs
    refine ⟨w1, v', _, r1, hv, r2, r3, hf, hm, rfl, hk, fn, ?_, ?_⟩
    · show P.funcs[b.fn]? = _
      rw [hf]; exact hP
    · show (results fn b.tmps).run P w1 = _
      rw [ht]; exact e

theorem call_sound (hC : CtxOK C) {ih : Req → Option Resp} (IH : ∀ q r, ih q = some r → Said C q r) {f : FuncId} {args : List Value} {H : Heap} {r : Resp} (hs : stepCall C ih f args H = some r) : Said C (.call f args H) r := by
  unfold stepCall at hs
  split at hs
  · cases hs
  · rename_i pf hpf
    have hp := hC.funcs f pf hpf
    unfold prepF at hp
    split at hp
    · cases hp
    · rename_i fn hfn
      split at hp
      · cases hp
      · rename_i body hbody
        split at hp
        · rename_i c rs hc hrs
          cases hnm : (fn.name == "runtime.NumGoroutine") with
          | true => rw [hnm, cond_true] at hp; cases hp
          | false =>
            rw [hnm, cond_false] at hp; cases hp
            unfold callPF at hs
            obtain ⟨hle, hs⟩ := bif_some hs
            have hle := Nat.le_of_ble_eq_true hle
            simp only at hs hle
            cases hst : stepC C ih none f fn.ntmps c { t := Tr.putL .nil 0 args, d := [], H := H } with
            | none => rw [hst] at hs; cases hs
            | some r1 =>
              rw [hst] at hs
              cases r1 with
              | val v H1 => cases hs
              | code e s1 =>
                have hcall : ∀ (args : Array Value) (w : World), (callFunc f args).run C.P w = .ok (.enter f args) w := by
                  intro args w
                  have h1 : fn.name ≠ "runtime.NumGoroutine" := by simpa using hnm
                  simp [callFunc, hfn, h1, hbody, mark]
                have key : ∀ σ N w (args' : Array Value), HR C.P σ N H w → VL σ args args'.toList → ∀ cs, ∃ τ w1 a1, σ.le τ ∧ At C.P τ N fn.ntmps s1 a1 w1 ∧ Fr σ H w τ s1.H w1 ∧
                    ArrR C.P (lone (Frame.enter C.P f args' .normal) cs w) (Frame.enter C.P f args' .normal) [] cs e a1 w1 := by
                  intro σ N w args' hH hvl cs
                  have hfr : Frame.enter C.P f args' .normal = (Frame.enter C.P f args' .normal).atR { tmps := args' ++ Array.replicate (fn.ntmps - args'.size) undef, defers := [] } [.code body] := by
                    simp [Frame.enter, Frame.atR, hfn, hbody]
                  obtain ⟨τ, w1, a1, q1, q2, q3, q4⟩ := code_sound (C := C) (N := N) (nt := fn.ntmps) hC IH body c _ e s1 hc hst σ w { tmps := args' ++ Array.replicate (fn.ntmps - args'.size) undef, defers := [] } (Frame.enter C.P f args' .normal) [] cs
                    ⟨hH, TR.enter hvl hle, .nil⟩ .none rfl
                  refine ⟨τ, w1, a1, q1, q2, q3, ?_⟩
                  rw [← hfr] at q4
                  exact q4
                cases e with
                | exit id => cases hs
                | goto l => cases hs
                | normal =>
                  simp only [endCall] at hs
                  cases r with
                  | code e2 s2 => 
                    exfalso; unfold leaveC retVal at hs
                    (repeat' split at hs) <;> cases hs
                  | val v H' =>
                    refine ⟨hcall, fun σ N w args' hH hvl cs => ?_⟩
                    obtain ⟨τ, w1, a1, q1, q2, q3, q4⟩ := key σ N w args' hH hvl cs
                    obtain ⟨w', v', fr, r1, r2, r3, r4, r5, r6⟩ := leave_sound hfn hrs hs q2 (b := { (Frame.enter C.P f args' .normal).atR a1 [] with mode := .returning }) rfl rfl rfl rfl rfl cs
                    exact ⟨τ, w', v', fr, q1, r1, r2, q3.trans r3, Steps.trans q4 (.head (stepR_end rfl) r4), r5, r6⟩
                | ret =>
                  simp only [endCall] at hs
                  cases r with
                  | code e2 s2 =>
                    exfalso; unfold leaveC retVal at hs
                    (repeat' split at hs) <;> cases hs
                  | val v H' =>
                    refine ⟨hcall, fun σ N w args' hH hvl cs => ?_⟩
                    obtain ⟨τ, w1, a1, q1, q2, q3, k1, q4⟩ := key σ N w args' hH hvl cs
                    obtain ⟨w', v', fr, r1, r2, r3, r4, r5, r6⟩ := leave_sound hfn hrs hs q2 (b := { (Frame.enter C.P f args' .normal).atR a1 (.code .ret :: k1) with mode := .returning }) rfl rfl rfl rfl rfl cs
                    exact ⟨τ, w', v', fr, q1, r1, r2, q3.trans r3, Steps.trans q4 (.head (stepR_ret rfl) r4), r5, r6⟩
        · cases hp

theorem loop_sound (hC : CtxOK C) {ih : Req → Option Resp} (IH : ∀ q r, ih q = some r → Said C q r) {ro : Option Nat} {fn : FuncId} {c : PC} {s : St} {r : Resp} (hs : stepC C ih ro fn nt c s = some r) :
    Said C (.code ro fn nt c s) r := by
  cases r with
  | val v H => exact True.intro
  | code e s' =>
    intro bc pb hcl hb σ N w a b k cs h hro hfn
    subst hcl
    simp only [stepC] at hs
    rcases thenC_some hs with ⟨s1, h1, h2⟩ | ⟨he, h1⟩
    · obtain ⟨τ, w1, a1, q1, q2, q3, q4⟩ := code_sound hC IH bc pb s .normal s1 hb h1 σ w a b (.inLoop bc :: k) cs h hro hfn
      have hsaid : SaidCode C ro fn nt (.loop pb) s1 e s' := IH _ _ h2
      obtain ⟨υ, w2, a2, p1, p2, p3, p4⟩ := hsaid bc pb rfl hb τ N w1 a1 b k cs q2 (hro.le q1) hfn
      exact ⟨υ, w2, a2, Ren.le_trans q1 p1, p2, q3.trans p3, .of_steps (.head stepR_inLoop q4) p4⟩
    · obtain ⟨τ, w1, a1, q1, q2, q3, q4⟩ := code_sound hC IH bc pb s e s' hb h1 σ w a b (.inLoop bc :: k) cs h hro hfn
      exact ⟨τ, w1, a1, q1, q2, q3, .of_steps (.one stepR_inLoop) (.pass (x := .inLoop bc) rfl he q4)⟩

theorem scope_sound (hC : CtxOK C) {ih : Req → Option Resp} (IH : ∀ q r, ih q = some r → Said C q r) {ro : Option Nat} {fn : FuncId} {whole c : PC} {s : St} {r : Resp}
    (hs : scopeC ih ro fn nt whole (stepC C ih ro fn nt c s) = some r) : Said C (.scope ro fn nt whole c s) r := by
  cases r with
  | val v H => exact True.intro
  | code e s' =>
    intro wc code hwc hcode σ N w a b k cs h hro hfn
    cases hst : stepC C ih ro fn nt c s with
    | none => rw [hst] at hs; cases hs
    | some r1 =>
      rw [hst] at hs
      cases r1 with
      | val v H => simp only [scopeC] at hs; cases hs
      | code e1 s1 =>
        obtain ⟨τ, w1, a1, q1, q2, q3, q4⟩ := code_sound hC IH code c s e1 s1 hcode hst σ w a b (.inScope wc :: k) cs h hro hfn
        obtain ⟨υ, w2, a2, p1, p2, p3, p4⟩ := scope_fin IH hwc hs q2 (hro.le q1) hfn q4
        exact ⟨υ, w2, a2, Ren.le_trans q1 p1, p2, q3.trans p3, p4⟩

theorem putTs_sound : ∀ (ps : List Tmp) (args args' : List Value) (t t' : Tr Value) (tmps : Array Value), putTs nt t ps args = some t' → VL σ args args' → TR σ nt t tmps →
    ps.length = args'.length ∧ TR σ nt t' ((ps.zip args').foldl (fun tmps x => tmps.setIfInBounds x.1 x.2) tmps)
  | [], args, args', t, t', tmps, hp, hv, h => by
    cases hv with
    | nil => simp only [putTs, Option.some.injEq] at hp; subst hp; exact ⟨rfl, h⟩
    | cons _ _ => simp [putTs] at hp
  | p :: ps, args, args', t, t', tmps, hp, hv, h => by
    cases hv with
    | nil => simp [putTs] at hp
    | cons hx hr =>
      simp only [putTs] at hp
      split at hp
      · rename_i t1 h1
        have ht1 := TR.put (a := { tmps := tmps, defers := [] }) h hx h1
        obtain ⟨q1, q2⟩ := putTs_sound ps _ _ t1 t' _ hp hr ht1
        exact ⟨by simp [q1], q2⟩
      · cases hp

theorem exCode_none {e : Ex} : (exCode e).isNone = true ↔ e = .normal := by cases e <;> simp [exCode]

/-- The end of a round. -/
theorem endRd_sound {l blk : Nat} {e : Ex} {s : St} {v : Value} {H' : Heap} (hs : endRd l (some (.code e s)) = some (.val v H')) (h : At P σ N nt s a w) (hl : σ.obj l = some blk) {b : Frame} (hb : b.roundOf = some blk) (hk : b.kind = .normal) {c : Frame} {cs : List Frame} {m : Machine}
    (harr : ArrR P m b [] (c :: cs) e a w) : ∃ w', HR P σ N H' w' ∧ VR σ v v ∧ Fr σ s.H w σ H' w' ∧ Steps P m (lone (c.finish v) cs w') := by
  simp only [endRd] at hs
  split at hs
  · rename_i r hr
    cases hs
    obtain ⟨r', hr', hlr⟩ := obj_at h.heap hr hl
    have fin : ∀ (j : Option Code) (st : LoopState), PendR (exCode e) j → (exCode e).isNone = j.isNone → (if j.isNone then LoopState.ready else LoopState.done) = st →
        ∃ w', HR P σ N (s.H.upd l (.loop { r with state := st, pending := exCode e })) w' ∧ Fr σ s.H w σ (s.H.upd l (.loop { r with state := st, pending := exCode e })) w' ∧
        (Instr.endRound blk j).run P w = .ok (.bool (exCode e).isNone) w' := by
      intro j st hj hn hst
      obtain ⟨u1, u2⟩ := upd_sound h.heap hr (by intros; exact Ent.noConfusion) (o2 := .loop { r with state := st, pending := exCode e }) (by intros; exact Ent.noConfusion) hl
        (.loop (r' := { r' with state := if j.isNone then .ready else .done, pending := j }) ⟨hst, hj, hlr.fn, hlr.tmps, hlr.params, hlr.assign, hlr.body⟩)
      exact ⟨_, u1, u2, by rw [run_endRound j hr', hn]; rfl⟩
    cases e with
    | normal =>
      obtain ⟨w', q1, q2, q3⟩ := fin none .ready .none rfl rfl
      exact ⟨w', q1, .bool _, q2, Steps.trans harr (.one (stepR_round_end hb hk q3))⟩
    | exit id =>
      obtain ⟨w', q1, q2, q3⟩ := fin (some (.exit id)) .done (.exit id) rfl rfl
      obtain ⟨k1, hk1, hst⟩ := harr.2 rfl
      exact ⟨w', q1, .bool _, q2, Steps.trans hst (.one (stepR_round_exit hb hk hk1 q3))⟩
    | goto id =>
      obtain ⟨w', q1, q2, q3⟩ := fin (some (.goto id)) .done (.goto id) rfl rfl
      obtain ⟨k1, hk1, hst⟩ := harr.2 rfl
      exact ⟨w', q1, .bool _, q2, Steps.trans hst (.one (stepR_round_goto hb hk hk1 q3))⟩
    | ret =>
      obtain ⟨w', q1, q2, q3⟩ := fin (some .ret) .done .ret rfl rfl
      obtain ⟨k1, hst⟩ := harr
      exact ⟨w', q1, .bool _, q2, Steps.trans hst (.one (stepR_round_ret hb hk q3))⟩
  · cases hs

theorem yield_sound (hC : CtxOK C) {ih : Req → Option Resp} (IH : ∀ q r, ih q = some r → Said C q r) {l : Nat} {args : List Value} {H : Heap} {q : Resp} (hs : stepYield C ih l args H = some q) : Said C (.yield l args H) q := by
  unfold stepYield at hs
  split at hs
  · rename_i r hr
    cases hpt : putTs r.nt r.tmps r.params args with
    | none => rw [hpt] at hs; cases hs
    | some t =>
      rw [hpt] at hs
      simp only [stepRd] at hs
      cases hst : stepC C ih (some l) r.fn r.nt r.assign { t := t, d := [], H := H } with
      | none => rw [hst] at hs; cases hs
      | some q1 =>
        rw [hst] at hs
        cases q1 with
        | val v H1 => cases hs
        | code e1 s1 =>
          cases e1 with
          | exit id => cases hs
          | goto id => cases hs
          | ret => cases hs
          | normal =>
            simp only [bodyRd] at hs
            split at hs
            · rename_i r1 hr1
              split at hs
              · rename_i hready
                cases hst2 : stepC C ih (some l) r.fn r.nt r.body { t := s1.t, d := s1.d, H := s1.H.upd l (.loop { r1 with state := .busy }) } with
                | none => rw [hst2] at hs; cases hs
                | some q2 =>
                  rw [hst2] at hs
                  cases q2 with
                  | val v H2 => cases hs
                  | code e2 s2 =>
                    cases q with
                    | code e3 s3 =>
                      exfalso; simp only [endRd] at hs
                      split at hs <;> cases hs
                    | val v H' =>
                      intro σ N w args' blk hH hvl hobj
                      obtain ⟨r', hr', hlr⟩ := obj_at hH hr hobj
                      obtain ⟨hlen, htr⟩ := putTs_sound r.params args args'.toList r.tmps t r'.tmps hpt hvl hlr.tmps
                      have hsz : args'.size = r'.params.size := by
                        have e : r'.params.toList.length = r.params.length := by rw [hlr.params]
                        simp only [Array.length_toList] at e hlen
                        omega
                      refine ⟨_, _, _, _, run_yield hr' hsz, fun c cs => ?_⟩
                      have hfold : (r'.params.zip args').foldl (fun tmps x => match x with | (t, a) => tmps.setIfInBounds t a) r'.tmps = (r.params.zip args'.toList).foldl (fun tmps x => tmps.setIfInBounds x.1 x.2) r'.tmps := by
                        rw [← Array.foldl_toList, Array.toList_zip, hlr.params]
                      rw [hfold]
                      generalize (r.params.zip args'.toList).foldl (fun tmps x => tmps.setIfInBounds x.1 x.2) r'.tmps = tm at htr
                      have hfr : Frame.round blk r'.fn tm r'.assign r'.body .normal = (Frame.round blk r'.fn tm r'.assign r'.body .normal).atR { tmps := tm, defers := [] } (.code r'.assign :: [.beginRound, .code r'.body]) := rfl
                      obtain ⟨τ, w1, a1, q1, q2, q3, q4⟩ := code_sound (C := C) (N := N) (nt := r.nt) hC IH r'.assign r.assign _ .normal s1 hlr.assign hst σ w { tmps := tm, defers := [] } (Frame.round blk r'.fn tm r'.assign r'.body .normal) [.beginRound, .code r'.body] (c :: cs)
                        ⟨hH, htr, .nil⟩ (.some hobj) hlr.fn
                      rw [← hfr] at q4
                      have hobj1 := q1.2 _ _ hobj
                      obtain ⟨r1', hr1', hlr1⟩ := obj_at q2.heap hr1 hobj1
                      have hbr := run_beginRound (P := C.P) hr1' (by rw [hlr1.state, hready])
                      obtain ⟨u1, u2⟩ := upd_sound q2.heap hr1 (by simp) (o2 := .loop { r1 with state := .busy }) (by simp) hobj1 (.loop (r' := { r1' with state := .busy }) ⟨rfl, hlr1.pending, hlr1.fn, hlr1.tmps, hlr1.params, hlr1.assign, hlr1.body⟩)
                      obtain ⟨υ, w2, a2, p1, p2, p3, p4⟩ := code_sound (C := C) (N := N) (nt := r.nt) hC IH r'.body r.body _ e2 s2 hlr.body hst2 τ (w1.putObj blk (.loop { r1' with state := .busy })) a1 (Frame.round blk r'.fn tm r'.assign r'.body .normal) [] (c :: cs)
                        ⟨u1, q2.tmps, q2.defers⟩ (.some hobj1) hlr.fn
                      have harr := ArrR.of_steps (Steps.trans q4 (.one (stepR_beginRound (P := C.P) (b := Frame.round blk r'.fn tm r'.assign r'.body .normal) (a := a1) (k := [.code r'.body]) (cs := c :: cs) rfl hbr))) p4
                      obtain ⟨w', t1, t2, t3, t4⟩ := endRd_sound hs p2 (p1.2 _ _ hobj1) (b := Frame.round blk r'.fn tm r'.assign r'.body .normal) rfl rfl harr
                      exact ⟨υ, w', v, Ren.le_trans q1 p1, t1, t2, (q3.trans u2).trans (p3.trans t3), t4⟩
              · cases hs
            · cases hs
  · cases hs

/-- The evaluator is sound. -/
theorem run_sound (hC : CtxOK C) : ∀ (n : Nat) (q : Req) (r : Resp), run C n q = some r → Said C q r
  | 0, q, r, h => by cases h
  | n + 1, q, r, h => by
    have IH := run_sound hC n
    cases q with
    | call f args H => exact call_sound hC IH h
    | yield l args H => exact yield_sound hC IH h
    | code ro fn nt c s => exact loop_sound hC IH h
    | scope ro fn nt whole c s => exact scope_sound hC IH h

end
end Go.Abs
