/- Texts of the law, joined. -/
import Derived.Test.YtdlfikobjnjmaaaSym5
import Derived.WalkKit
import Derived.ProofKit
import Derived.OpenShut
/- From what a call comes to in the evaluator to what the rows say: arguments that name no memory are opened, and read again. -/
namespace Go.Abs
set_option linter.unusedSectionVars false
variable [Globs]
open Go Go.ChangeShapes Go.WideShapes Go.ChangeAt Go.RowKit
set_option linter.unusedVariables false
set_option linter.unusedSimpArgs false

/-- A call whose arguments name no memory. -/
theorem calls_of_FS {C : CW} (hC : CtxOK C.c) (hw : ∀ H, Said C.c (.call C.w [] H) (.val (.bool true) H)) {f : FuncId} {args : List Value} (hp : args.all plainV = true) (h : FS C f args noHeap (fun v _ => v = .bool true)) (w : World) (hG : GlobIn w.heap.size w := by (intro _ _ h; cases h)) :
    Calls C.c.P f args.toArray w fun e w' => e = .returned (.bool true) ∧ Grown w w' := by
  obtain ⟨v, H', ⟨n, hn⟩, rfl⟩ := h
  have hs := runW_sound hC hw n _ _ hn
  have hv : VL noRen args args.toArray.toList := by
    have : ∀ (l : List Value), l.all plainV = true → VL noRen l l := by
      intro l
      induction l with
      | nil => intro _; exact .nil
      | cons a l ih =>
        intro hl
        simp only [List.all_cons, Bool.and_eq_true] at hl
        exact .cons (VR.refl_plain hl.1) (ih hl.2)
    simpa using this args hp
  intro cs
  obtain ⟨τ, w', v', fr, q1, q2, q3, q4, q5, q6, q7⟩ := hs.2 noRen w.heap.size w args.toArray (noHeap_HR hG) hv cs
  cases q3
  exact ⟨.returned (.bool true), w', fr, ⟨rfl, grown_of_fr q4⟩, q5, q6, q7⟩

section
variable {H : Type} {enc : TypeId × Value → H} {P : Program} {w : World} {base : Nat} {spare : Nat → Bool} {held : Bool}

theorem trod_arrK {t e n fuel : Nat} {k : IntKind} {cs : List Value} {x : DataW H × List MemPlace} (ht : P.underlying t = some (.array n e)) (he : P.underlying e = some (.int k)) (h1 : P.cellsOf e = 1) (hc : P.cellsOf t = n)
    (h : DataW.trod enc P w base spare held fuel t cs = some x) : ∃ xs : List Int, xs.length = n ∧ cs = xs.map (Value.int k) ∧ x.2 = [] ∧ ∀ y ∈ xs, (Lit.int k y).wf = true := by
  cases fuel with
  | zero => simp [DataW.trod] at h
  | succ m =>
    rw [DataW.trod_step] at h
    unfold DataW.trodStep at h
    rw [ht] at h
    have hl : cs.length = n := by
      by_cases hl : cs.length = P.cellsOf t
      · rw [hl, hc]
      · exfalso; split at h <;> simp_all
    have h2 : ∃ ys, ((List.range n).mapM fun i => DataW.trod enc P w base spare held m e ((cs.drop (i * P.cellsOf e)).take (P.cellsOf e))) = some ys ∧ x = (.agg (ys.map (·.1)), ys.flatMap (·.2)) := by
      split at h <;> simp_all
      obtain ⟨ys, h3, h4⟩ := h
      exact ⟨ys, h3, h4.symm⟩
    obtain ⟨ys, h3, rfl⟩ := h2
    have hget : ∀ i, i < n → ∃ a, cs[i]? = some (.int k a) ∧ (Lit.int k a).wf = true ∧ ∃ y, ys[i]? = some y ∧ y.2 = [] := by
      intro i hi
      have := mapM_some_get h3 i i (by simp [hi])
      rw [h1, Nat.mul_one] at this
      cases hy : ys[i]? with
      | none => have hlen := mapM_some_length h3; simp at hlen; rw [List.getElem?_eq_none_iff] at hy; omega
      | some y =>
        rw [hy] at this
        obtain ⟨a, e1, e2, e3⟩ := DataW.trod_int he this
        refine ⟨a, ?_, e3, y, rfl, by rw [e2]⟩
        have : ((cs.drop i).take 1)[0]? = some (.int k a) := by rw [e1]; rfl
        simpa using this
    refine ⟨cs.map (fun v => match v with | .int _ a => a | _ => 0), by simp [hl], ?_, ?_, ?_⟩
    · apply List.ext_getElem?
      intro i
      by_cases hi : i < n
      · obtain ⟨a, e1, _⟩ := hget i hi
        simp [e1]
      · rw [List.getElem?_eq_none (by omega), List.getElem?_eq_none (by simp; omega)]
    · simp only [List.flatMap_eq_nil_iff]
      intro y hy
      obtain ⟨i, hi, rfl⟩ := List.mem_iff_getElem.1 hy
      have hlen := mapM_some_length h3
      simp at hlen
      obtain ⟨_, _, _, y2, e1, e2⟩ := hget i (by omega)
      rw [List.getElem?_eq_getElem hi] at e1
      cases e1; exact e2
    · intro y hy
      obtain ⟨v, hv, rfl⟩ := List.mem_map.1 hy
      obtain ⟨i, hi, rfl⟩ := List.mem_iff_getElem.1 hv
      obtain ⟨a, e1, e2, _⟩ := hget i (by omega)
      rw [List.getElem?_eq_getElem hi] at e1
      simp only [Option.some.injEq] at e1
      rw [e1]; exact e2
theorem trodAll_stays (hl : laidOutB P = true) {W W' : World} {sp' : Nat → Bool} : ∀ {ts : List TypeId} {vs : List Value} {ds : List (DataW H)} {ps : List MemPlace}, (∀ t ∈ ts, P.readableRec t = true ∧ t < P.types.size) →
    DataW.TrodAll enc P W base (fun _ => true) true ts vs ds ps → (∀ p ∈ ps, W.sameAt W' p) → (∀ p ∈ ps, sp' p.block = true) → DataW.TrodAll enc P W' base sp' true ts vs ds ps
  | [], vs, ds, ps, _, h, _, _ => by
    obtain ⟨rfl, rfl, rfl⟩ := trodAll_nil h
    exact trodAll_mk0
  | t :: ts, vs, ds, ps, ht, h, hs, hp => by
    obtain ⟨v, vs1, d, ds1, a, b, rfl, rfl, rfl, h1, h2⟩ := trodAll_cons h
    exact trodAll_cons_mk (WideElems.Trod_stays hl (ht t (by simp)).1 (ht t (by simp)).2 h1 (fun p hp => hs p (by simp [hp])) (fun p hq => hp p (by simp [hq])))
      (trodAll_stays hl (fun t h => ht t (by simp [h])) h2 (fun p hp => hs p (by simp [hp])) (fun p hq => hp p (by simp [hq])))
theorem byte_bd {y : Int} (h : (Lit.int .u8 y).wf = true) : 0 ≤ y ∧ y ≤ 255 := by
  simp only [Lit.wf, Bool.and_eq_true, decide_eq_true_eq] at h
  have e1 : IntKind.u8.min = 0 := rfl
  have e2 : IntKind.u8.max = 255 := rfl
  omega

end
end Go.Abs

/- Arguments that are structs of bytes and of arrays of bytes. -/
namespace Go.Abs
set_option linter.unusedSectionVars false
variable [Globs]
open Go Go.ChangeShapes Go.WideShapes Go.ChangeAt Go.RowKit
set_option linter.unusedVariables false
set_option linter.unusedSimpArgs false
/-- A type of so many cells, each a number of one kind. -/
inductive FlatT (P : Program) (k : IntKind) : TypeId → Nat → Prop
  | int {t : TypeId} (h : P.underlying t = some (.int k)) (hc : P.cellsOf t = 1) : FlatT P k t 1
  | arr {t e : TypeId} {n : Nat} (ht : P.underlying t = some (.array n e)) (he : P.underlying e = some (.int k)) (h1 : P.cellsOf e = 1) (hc : P.cellsOf t = n) : FlatT P k t n
  | nest {t e : TypeId} {n K N : Nat} (ht : P.underlying t = some (.array n e)) (he : FlatT P k e K) (hN : n * K = N) (hc : P.cellsOf t = N) : FlatT P k t N
inductive FlatL (P : Program) (k : IntKind) : Nat → List Field → Nat → Prop
  | nil (n : Nat) : FlatL P k n [] n
  | cons {o n m : Nat} {f : Field} {fs : List Field} (h : FlatT P k f.type n) (ho : f.offset = o) (hl : FlatL P k (o + n) fs m) : FlatL P k o (f :: fs) m
theorem FlatT.cells {P : Program} {k : IntKind} {t : TypeId} {n : Nat} (h : FlatT P k t n) : P.cellsOf t = n := by
  cases h with
  | int _ hc => exact hc
  | arr _ _ _ hc => exact hc
  | nest _ _ _ hc => exact hc
theorem FlatL.le {P : Program} {k : IntKind} {o m : Nat} {fs : List Field} (h : FlatL P k o fs m) : o ≤ m := by
  induction h with
  | nil => exact Nat.le_refl _
  | cons _ _ _ ih => omega
section
variable {H : Type} {enc : TypeId × Value → H} {P : Program} {w : World} {base : Nat} {spare : Nat → Bool} {held : Bool}
theorem trod_flat {k : IntKind} {t n : Nat} (ht : FlatT P k t n) : ∀ {fuel : Nat} {cs : List Value} {x : DataW H × List MemPlace}, DataW.trod enc P w base spare held fuel t cs = some x →
    ∃ xs : List Int, xs.length = n ∧ cs = xs.map (Value.int k) ∧ x.2 = [] ∧ ∀ y ∈ xs, (Lit.int k y).wf = true := by
  induction ht with
  | int h1 hc =>
    intro fuel cs x h
    obtain ⟨a, e3, e4, e5⟩ := DataW.trod_int h1 h
    exact ⟨[a], rfl, e3, by rw [e4], fun y hy => by rw [List.mem_singleton.1 hy]; exact e5⟩
  | arr ht he h1 hc =>
    intro fuel cs x h
    exact trod_arrK ht he h1 hc h
  | @nest t e n K N ht he hN hc ih =>
    intro fuel cs x h
    obtain ⟨xs, m, rfl, rfl, hl, hxl, hget⟩ := DataW.trod_array ht h
    rw [hc, ← hN] at hl
    have hK := he.cells
    rw [hK] at hget
    have key : ∀ i, i < n → ∃ (y : DataW H × List MemPlace) (ys : List Int), xs[i]? = some y ∧ ys.length = K ∧ (cs.drop (i * K)).take K = ys.map (Value.int k) ∧ y.2 = [] ∧ ∀ z ∈ ys, (Lit.int k z).wf = true := fun i hi => by
      have h1 := hget i hi
      have h2 : xs[i]? = some (xs[i]'(by omega)) := List.getElem?_eq_getElem _
      rw [h2] at h1
      obtain ⟨ys, g1, g2, g3, g4⟩ := ih h1
      exact ⟨_, ys, h2, g1, g2, g3, g4⟩
    have hcell : ∀ j, j < n * K → ∃ a, cs[j]? = some (.int k a) ∧ (Lit.int k a).wf = true := fun j hj => by
      have hK0 : 0 < K := by
        rcases Nat.eq_zero_or_pos K with h | h
        · rw [h, Nat.mul_zero] at hj; omega
        · exact h
      have hdiv := Nat.div_add_mod j K
      have hmod := Nat.mod_lt j hK0
      have hi : j / K < n := (Nat.div_lt_iff_lt_mul hK0).2 hj
      obtain ⟨y, ys, _, g1, g2, _, g4⟩ := key (j / K) hi
      have hr : j % K < ys.length := by omega
      refine ⟨ys[j % K], ?_, g4 _ (List.getElem_mem hr)⟩
      have := congrArg (fun l => l[j % K]?) g2
      simp only [List.getElem?_take_of_lt hmod, List.getElem?_drop, List.getElem?_map, List.getElem?_eq_getElem hr] at this
      rw [show j / K * K + j % K = j by rw [Nat.mul_comm]; exact hdiv] at this
      exact this
    refine ⟨cs.map (fun v => match v with | .int _ a => a | _ => 0), by simp [hl, hN], ?_, ?_, ?_⟩
    · apply List.ext_getElem?
      intro i
      by_cases hi : i < n * K
      · obtain ⟨a, e1, _⟩ := hcell i hi
        simp [e1]
      · rw [List.getElem?_eq_none (by omega), List.getElem?_eq_none (by simp; omega)]
    · simp only [List.flatMap_eq_nil_iff]
      intro y hy
      obtain ⟨i, hi, rfl⟩ := List.mem_iff_getElem.1 hy
      obtain ⟨y, ys, g0, _, _, g3, _⟩ := key i (by omega)
      rw [List.getElem?_eq_getElem hi] at g0
      rw [Option.some.inj g0]; exact g3
    · intro y hy
      obtain ⟨v, hv, rfl⟩ := List.mem_map.1 hy
      obtain ⟨i, hi, rfl⟩ := List.mem_iff_getElem.1 hv
      obtain ⟨a, e1, e2⟩ := hcell i (by omega)
      rw [List.getElem?_eq_getElem hi] at e1
      rw [Option.some.inj e1]; exact e2
theorem trod_fields {k : IntKind} {m : Nat} {cs : List Value} : ∀ {fs : List Field} {o N : Nat} {xs : List (DataW H × List MemPlace)}, FlatL P k o fs N → xs.length = fs.length → N ≤ cs.length →
    (∀ (i : Nat) (f : Field), fs[i]? = some f → DataW.trod enc P w base spare held m f.type ((cs.drop f.offset).take (P.cellsOf f.type)) = xs[i]?) →
    ∃ ys : List Int, o + ys.length = N ∧ (cs.drop o).take (N - o) = ys.map (Value.int k) ∧ xs.flatMap (·.2) = [] ∧ ∀ y ∈ ys, (Lit.int k y).wf = true
  | [], o, N, xs, hL, hl, hN, hg => by
    cases hL with
    | nil =>
      obtain rfl : xs = [] := List.length_eq_zero_iff.1 hl
      exact ⟨[], rfl, by simp, rfl, fun y hy => by cases hy⟩
  | f :: fs, o, N, xs, hL, hl, hN, hg => by
    cases hL with
    | @cons _ n _ _ _ hT ho hLL =>
      match xs, hl with
      | x :: xs, hl =>
        have h0 := hg 0 f rfl
        rw [hT.cells, ho] at h0
        obtain ⟨ys, h1, h2, h3, h4⟩ := trod_flat hT h0
        obtain ⟨zs, k1, k2, k3, k4⟩ := trod_fields (xs := xs) hLL (by simpa using hl) hN (fun i f' hf => by
          have := hg (i + 1) f' (by simpa using hf)
          simpa using this)
        have hle := hLL.le
        refine ⟨ys ++ zs, by rw [List.length_append]; omega, ?_, by simp [h3, k3], fun y hy => ?_⟩
        · rw [List.map_append, ← h2, ← k2, show N - o = n + (N - (o + n)) by omega, List.take_add, List.drop_drop]
        · rcases List.mem_append.1 hy with h | h
          · exact h4 y h
          · exact k4 y h
/-- A struct of bytes and arrays of bytes, or the like. -/
theorem open_flat {k : IntKind} {r : Reach} {b0 t N : Nat} {fs : Array Field} {v : Value} {d : DataW H} {ps : List MemPlace} (ht : P.underlying t = some (.struct fs)) (hL : FlatL P k 0 fs.toList N) (hc : P.cellsOf t = N)
    (hval : Value.okWide P w r b0 t v) (hd : DataW.Trod enc P w base spare held t v d ps) : ∃ xs : List Int, xs.length = N ∧ v = .agg (xs.map (Value.int k)).toArray ∧ ps = [] ∧ ∀ y ∈ xs, (Lit.int k y).wf = true := by
  unfold Value.okWide at hval
  rw [ht] at hval
  obtain ⟨cs, rfl, _, _⟩ := hval
  obtain ⟨fuel, hf⟩ := hd
  obtain ⟨xs, m, rfl, hx, hl, hxl, hget⟩ := DataW.trod_struct ht hf
  have hcs : (Value.agg cs).cells.toList = cs.toList := rfl
  rw [hcs] at hl hget
  rw [hc] at hl
  obtain ⟨ys, h1, h2, h3, h4⟩ := trod_fields (enc := enc) (w := w) (base := base) (spare := spare) (held := held) (m := m) (cs := cs.toList) (xs := xs) hL (by simpa using hxl) (by omega) (fun i f hf => by
    have hf' : fs[i]? = some f := by simpa using hf
    exact hget i f hf')
  simp only [Prod.mk.injEq] at hx
  refine ⟨ys, by omega, ?_, by rw [hx.2]; exact h3, h4⟩
  congr 1
  apply Array.ext'
  rw [← h2, List.drop_zero, Nat.sub_zero, ← hl, List.take_length]
end
end Go.Abs
