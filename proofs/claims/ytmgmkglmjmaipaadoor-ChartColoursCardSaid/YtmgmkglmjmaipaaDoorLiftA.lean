/- A variable that is a row of numbers, as its datum says. -/
import Derived.Test.YtmgmkglmjmaipaaDoorLiftG
import Derived.OpenShut
import Derived.ChangeArms
namespace Go.Abs
open Go
set_option linter.unusedVariables false
set_option linter.unusedSectionVars false
theorem cells_lits {H : Type} {enc : TypeId × Value → H} {P : Program} {w : World} {base : Nat} {spare : Nat → Bool} {held : Bool} {fuel : Nat} {t e : TypeId} {cs : List Value} {ns : List Int} {p : List MemPlace}
    (ht : P.underlying t = some (.array ns.length e)) (he : P.underlying e = some (.int .i64)) (hce : P.cellsOf e = 1) (hct : P.cellsOf t = ns.length)
    (h : DataW.trod enc P w base spare held fuel t cs = some (.agg (ns.map fun n => .lit (.int .i64 n)), p)) : cs = ns.map (Value.int .i64) := by
  obtain ⟨xs, m, _, ex, hlen, hl, hel⟩ := DataW.trod_array ht h
  have e3 : ns.map (fun n => DataW.lit (H := H) (.int .i64 n)) = xs.map (·.1) := DataW.agg.inj (Prod.mk.inj ex).1
  rw [hct] at hlen
  refine List.ext_getElem (by simpa using hlen) fun i h1 h2 => ?_
  have hi : i < ns.length := by omega
  have k0 := hel i hi
  rw [hce, Nat.mul_one, List.getElem?_eq_getElem (by omega)] at k0
  obtain ⟨z, a0, b0, _⟩ := DataW.trod_int he k0
  have e4 : (ns.map (fun n => DataW.lit (H := H) (.int .i64 n)))[i]? = (xs.map (·.1))[i]? := by rw [e3]
  rw [List.getElem?_map, List.getElem?_map, List.getElem?_eq_getElem hi, List.getElem?_eq_getElem (by omega), b0] at e4
  have e5 : ns[i] = z := by
    have := Option.some.inj e4
    injection this with this
    injection this
  have e6 : cs[i] = .int .i64 z := by
    have := congrArg List.head? a0
    rw [List.head?_take, if_neg (by decide), List.head?_drop, List.getElem?_eq_getElem h1] at this
    exact Option.some.inj this
  rw [e6, List.getElem_map, e5]
end Go.Abs
