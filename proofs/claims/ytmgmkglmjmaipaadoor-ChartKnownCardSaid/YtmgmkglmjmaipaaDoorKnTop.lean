/- The law ChartKnown returns true, whatever the world: its one call is carried out by an evaluator that is proved sound, in the kernel. No condition. -/
import Derived.Test.YtmgmkglmjmaipaaDoorAbsCalls
import Derived.Test.YtmgmkglmjmaipaaDoorLiftA
import Derived.Test.YtmgmkglmjmaipaaDoorKnT14
import Derived.WalkKit
import Derived.ProofKit
import Derived.OpenShut
import Derived.Lay
import Derived.MakeChecks
import Derived.LaidByTextLater
import Derived.LaidOnce
import Derived.Shelf.Vars
import Derived.SevenTiedAt
import Derived.Test.YtmgmkglmjmaipaaDoorTie
import Derived.Test.YtmgmkglmjmaipaaDoorCards
namespace Go.Proofs.YtmgmkglmjmaipaaDoor
open Go.ChangeShapes Go.WideShapes Go.ChangeAt Go.RowKit Go.Abs
set_option linter.unusedVariables false

theorem own : ownKnob Tryd.prog.godebug = none := by kernel_rfl

set_option maxRecDepth 100000 in
/-- The variable's cells, as the text lays them. -/
theorem globs {W : World} (hL : laidMetH Tryd.prog [("bellarmine/chart.otherEnds", Rows.laid_bellarmine_chart_otherEnds)] W) : GlobIn W.heap.size W := by
  rw [MakeChecks.laidMetH_plain _ _ _ (by kernel_rfl)] at hL
  obtain ⟨ps, hv, _⟩ := hL
  obtain ⟨cs, fuel, p, q, hc, hd, _⟩ := cells_of_laid hv (g := 0) (by kernel_rfl) (t := 75) (by kernel_rfl)
  have h2 : cs.toList = otherEnds9 := cells_lits (ns := [1, 0, 3, 2, 5, 4, 7, 6, 9, 8, 11, 10, 13, 12, 15, 14]) Tryd.underlying75 Tryd.underlying3 (by kernel_rfl) (by kernel_rfl) hd
  intro g ls hg
  have hg' : (bif Nat.beq g 0 then some otherEnds9 else none) = some ls := hg
  cases e0 : Nat.beq g 0 with
  | true =>
    rw [e0, cond_true] at hg'
    obtain rfl := Nat.eq_of_beq_eq_true e0
    obtain rfl := Option.some.inj hg'
    refine glob_of_cells (by simp [otherEnds9]) fun i x hx => ?_
    rw [hc, ← Array.getElem?_toList, h2, ← hx]
  | false => rw [e0, cond_false] at hg'; cases hg'

set_option maxRecDepth 100000 in
theorem lifted (os : Os) (started : os.Started) (H : Type) (enc : TypeId × Value → H) :
    ReturnsInHanded {} Tryd.checked os 14 .any (fun w args => (Rows.chartKnownSpec.pre enc Tryd.prog Tryd.f14 [] false w args ∧ laidMetH Tryd.prog Rows.chartKnownRow.laid w) ∧ sizedMet enc Tryd.prog Tryd.f14 (OpenSpec.ofChange Rows.chartKnownSpec) false w args)
      (Rows.chartKnownSpec.post enc Tryd.prog Tryd.f14 false true false false) := by
  refine returns_laid_shaped (C := Tryd.checked) (X := fun w _ => laidMetH Tryd.prog Rows.chartKnownRow.laid w) (fun _ _ _ hh h => h.of_heap hh) own started (by kernel_rfl) Tryd.func14
    (ChangeSpec.witness_at (enc := enc) (C := Tryd.checked) (os := os) (X := fun w _ => laidMetH Tryd.prog Rows.chartKnownRow.laid w) false (World.laidAll Tryd.prog os Rows.chartKnownRow.laid) #[] 8 (World.laidAll_os _ _ _) (by kernel_rfl) (by kernel_rfl) (by kernel_rfl) (by kernel_rfl) (by kernel_rfl)
      (by rw [MakeChecks.laidMetH_plain _ _ _ (by kernel_rfl)]; exact laidMet_laidAll _ (by kernel_rfl) (by kernel_rfl))) ?_
  intro W base args ds gs before hval0 hW _ hL hsh
  have hW' := hW
  obtain ⟨p, q, hA0, hV, rfl, hfz, hnd⟩ := hW
  have hA : DataW.TrodAll enc Tryd.prog W 0 (fun _ => true) true Tryd.f14.params.toList args.toList ds p := hA0
  rw [Tryd.params14] at hA
  obtain ⟨hargs, rfl, rfl⟩ := trodAll_nil hA
  obtain rfl : args = #[] := by cases args; simp_all
  obtain ⟨rfl, rfl⟩ := trodVars_none hV
  clear hA0 hval0
  simp only [List.append_nil] at hW'
  have hG := globs hL
  refine (Said.calls Ev.said14 W hG).mono fun e W' ⟨he, hg⟩ => ?_
  subst he
  exact ⟨_, rfl, post_of_same (pa := []) (pv := []) hW' (fun _ _ _ => (trodAll_cons_mk (shut_bool Tryd.underlying4 _) trodAll_mk0)) (fun sp _ => trodAll_mk0) (fun _ _ => rfl) rfl
    (hg.frame _) hg.2.1 (ok_one (by kernel_rfl) rfl (okWide_bool_mk Tryd.underlying4 _))⟩

theorem over : Rows.chartKnownRow.holds Tryd.pinned (OpenSpec.ofChange Rows.chartKnownSpec) :=
  OpenClaim.holds_of_wide 14 Tryd.f14 rfl rfl rfl rfl rfl rfl rfl ⟨rfl, rfl, rfl, rfl, rfl⟩ rfl rfl rfl rfl rfl (by kernel_rfl) Tryd.func14 (by kernel_rfl)
    (of_decide_eq_true (by kernel_rfl)) (by unfold Func.isWrapper; first | (rw [if_pos (by decide +kernel)]; kernel_rfl) | (rw [if_neg (by decide +kernel)]; exact ⟨rfl, rfl⟩))
    (fun os started H enc _ => lifted os started H enc)

theorem chartKnown : Rows.ChartKnownCardSaid :=
  Claim7.holds_tied_plain_at .later [] [.data] true (true, "ef06e54900a0585be641f4c2694587d3fa5d9a56755befa69bccfd592b7415f0") false over (fun _ h => by cases h) (by kernel_rfl) (fun _ h => by cases h) chartKnown_row_tie rfl ⟨rfl, rfl⟩ (by kernel_rfl) rfl
    (fun f fn hf hfn => by
      obtain rfl : f = 14 := Option.some.inj ((show Tryd.prog.funcNamed "bellarmine/bellarminelaw09.ChartKnown" = some 14 by kernel_rfl).symm.trans hf) |>.symm
      obtain rfl : fn = Tryd.f14 := (Option.some.inj (Tryd.func14.symm.trans hfn)).symm
      exact ⟨by kernel_rfl, fun j t ht => by
        rw [Tryd.params14] at ht
        simp at ht⟩)
    (by kernel_rfl)
#print axioms chartKnown
end Go.Proofs.YtmgmkglmjmaipaaDoor
