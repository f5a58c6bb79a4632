/- Texts of the law, joined. -/
import Derived.Test.YtcfffhkabhmkmaaDoorAbsCalls
import Derived.SizedLaws
import Derived.LaidLaws
import Derived.LaidHandle
import Derived.Handed
import Derived.FnData
import Derived.OpenShut
import Derived.ChangeArms
/- Laws whose row lists package-level variables, the world's shape kept. -/
namespace Go.Abs
open Go
set_option linter.unusedVariables false
set_option linter.unusedSectionVars false
variable {H : Type} {enc : TypeId × Value → H}

theorem returns_laid_shaped {a : Assume} {C : Checked} {os : Os} {f : FuncId} {fn : Func} {s : ChangeSpec} {conds : List PathCond} {apart fresh handsOn again : Bool} {X : World → Array Value → Prop}
    (hX : ∀ (w w' : World) (args : Array Value), w.heap = w'.heap → X w args → X w' args)
    (own : ownKnob C.prog.godebug = none) (started : os.Started) (noInit : C.prog.inits.idxOf? f = none) (hfn : C.prog.funcs[f]? = some fn)
    (witness : ∃ (w : World) (tape : Tape) (i : Input), w.os = os ∧ (w.forCall tape i).Shaped C.prog ∧ i.vars = [] ∧ Input.okWide C.prog (w.forCall tape i) .any w.heap.size f i ∧
      ((s.pre enc C.prog fn conds apart (w.forCall tape i).memory i.args ∧ X (w.forCall tape i).memory i.args) ∧ sizedMet enc C.prog fn (OpenSpec.ofChange s) apart (w.forCall tape i).memory i.args) ∧ a.holds C.prog (lone (Frame.enter C.prog f i.args .normal) [] (w.forCall tape i)))
    (contract : ∀ (W : World) (base : Nat) (args : Array Value) (ds gs : List (DataW H)) (before : List MemPlace),
      (∀ (j : Nat) t v, fn.params[j]? = some t → args[j]? = some v → Value.okWide C.prog W .any base t v) →
      DataW.Whole enc C.prog fn.params.toList s.vars apart W args.toList ds gs before →
      conds.all (PathCond.test C.prog ⟨fn.params.toList, ds, s.plain.varTypes C.prog, gs⟩) = true → X W args → W.ShapedOpen C.prog →
      Calls C.prog f args W fun e W' => ∃ v, e = .returned v ∧ s.post enc C.prog fn apart fresh handsOn again W args v W') :
    ReturnsInHanded a C os f .any (fun w args => (s.pre enc C.prog fn conds apart w args ∧ X w args) ∧ sizedMet enc C.prog fn (OpenSpec.ofChange s) apart w args) (s.post enc C.prog fn apart fresh handsOn again) := by
  refine returnsInHanded_of_calls own started noInit witness ?_
  intro w tape i _ hsh _ hok hpre hholds
  obtain ⟨_, _, _, fn', hfn', _, _, _, _, hval⟩ := hok
  have e : fn' = fn := Option.some.inj (hfn'.symm.trans hfn)
  subst e
  obtain ⟨⟨⟨ds, gs, before, hw, hc⟩, hx⟩, hz⟩ := hpre
  have hw' := DataW.Whole.of_heap (w' := w.forCall tape i) (by rfl) hw
  refine (contract (w.forCall tape i) w.heap.size i.args ds gs before hval hw' hc (hX _ _ _ (by rfl) hx) hsh).mono fun e W' ⟨v, he, hp⟩ => ?_
  subst he
  exact ChangeSpec.post_blind hp

/-- A variable's cells, one by one. -/
theorem glob_of_cells {w : World} {g : Nat} {ls : List Value} (h0 : ls ≠ []) (hl : ∀ (i : Nat) (x : Value), ls[i]? = some x → w.cell? ⟨g, i, none⟩ = some x) :
    g < w.heap.size ∧ ∃ cs e fz, w.heap[g]? = some (.cells cs e fz) ∧ ∀ (i : Nat) (x : Value), ls[i]? = some x → cs[i]? = some x := by
  cases ls with
  | nil => exact absurd rfl h0
  | cons a l =>
    have h1 := hl 0 a rfl
    unfold World.cell? at h1
    split at h1
    · rename_i cs e fz hw
      refine ⟨(Array.getElem?_eq_some_iff.1 hw).1, cs, e, fz, hw, fun i x hx => ?_⟩
      have h2 := hl i x hx
      simpa [World.cell?, hw] using h2
    · cases h1

/-- A variable that holds a row of numbers. -/
theorem cells_of_laid {P : Program} {w : World} {name : String} {d : DataW Unit} {r : List (String × DataW Unit)} {ps : List MemPlace} (h : DataW.LaidVars P w ((name, d) :: r) ps) {g : Nat} (hg : P.globalNamed name = some g) {t : TypeId}
    (ht : (P.globals[g]?).map (·.type) = some t) : ∃ (cs : Array Value) (fuel : Nat) (p q : List MemPlace), (∀ i, w.cell? ⟨g, i, none⟩ = cs[i]?) ∧ DataW.trod (fun _ => ()) P w 0 (fun _ => true) false fuel t cs.toList = some (d, p) ∧ DataW.LaidVars P w r q := by
  obtain ⟨g', t', cs, fuel, p, q, e1, e2, e3, e4, e5, _⟩ := h
  obtain rfl := Option.some.inj (hg.symm.trans e1)
  obtain rfl := Option.some.inj (ht.symm.trans e2)
  exact ⟨cs, fuel, p, q, World.var?_cell e1 e3, e4, e5⟩
end Go.Abs

/- A variable that is a row of numbers, as its datum says. -/
namespace Go.Abs
open Go
set_option linter.unusedVariables false
set_option linter.unusedSectionVars false
theorem cells_litsK {k : IntKind} {H : Type} {enc : TypeId × Value → H} {P : Program} {w : World} {base : Nat} {spare : Nat → Bool} {held : Bool} {fuel : Nat} {t e : TypeId} {cs : List Value} {ns : List Int} {p : List MemPlace}
    (ht : P.underlying t = some (.array ns.length e)) (he : P.underlying e = some (.int k)) (hce : P.cellsOf e = 1) (hct : P.cellsOf t = ns.length)
    (h : DataW.trod enc P w base spare held fuel t cs = some (.agg (ns.map fun n => .lit (.int k n)), p)) : cs = ns.map (Value.int k) := by
  obtain ⟨xs, m, _, ex, hlen, hl, hel⟩ := DataW.trod_array ht h
  have e3 : ns.map (fun n => DataW.lit (H := H) (.int k n)) = xs.map (·.1) := DataW.agg.inj (Prod.mk.inj ex).1
  rw [hct] at hlen
  refine List.ext_getElem (by simpa using hlen) fun i h1 h2 => ?_
  have hi : i < ns.length := by omega
  have k0 := hel i hi
  rw [hce, Nat.mul_one, List.getElem?_eq_getElem (by omega)] at k0
  obtain ⟨z, a0, b0, _⟩ := DataW.trod_int he k0
  have e4 : (ns.map (fun n => DataW.lit (H := H) (.int k n)))[i]? = (xs.map (·.1))[i]? := by rw [e3]
  rw [List.getElem?_map, List.getElem?_map, List.getElem?_eq_getElem hi, List.getElem?_eq_getElem (by omega), b0] at e4
  have e5 : ns[i] = z := by
    have := Option.some.inj e4
    injection this with this
    injection this
  have e6 : cs[i] = .int k z := by
    have := congrArg List.head? a0
    rw [List.head?_take, if_neg (by decide), List.head?_drop, List.getElem?_eq_getElem h1] at this
    exact Option.some.inj this
  rw [e6, List.getElem_map, e5]
end Go.Abs
