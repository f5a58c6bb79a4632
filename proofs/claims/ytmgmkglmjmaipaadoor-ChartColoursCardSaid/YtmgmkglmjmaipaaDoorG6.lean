/- The law ChartColours returns true, whatever its input: colours are checked and found as stated (at most 40 points of 40 ends, and 60 colours). No condition. -/
import Derived.Test.YtmgmkglmjmaipaaDoorJ4
import Derived.Test.YtmgmkglmjmaipaaDoorLiftN
import Derived.Test.YtmgmkglmjmaipaaDoorCtF
import Derived.Test.YtmgmkglmjmaipaaDoorKnT16
import Derived.Test.YtmgmkglmjmaipaaDoorGl9
import Derived.Test.YtmgmkglmjmaipaaDoorLiftA
import Derived.WalkKit
import Derived.ProofKit
import Derived.OpenShut
import Derived.Lay
import Derived.MakeChecks
import Derived.LaidByTextLater
import Derived.LaidOnce
import Derived.Shelf.Vars
import Derived.SevenTiedAt
import Derived.Test.YtmgmkglmjmaipaaDoorTie
import Derived.Test.YtmgmkglmjmaipaaDoorCards
namespace Go.Proofs.YtmgmkglmjmaipaaDoor
open Go.ChangeShapes Go.WideShapes Go.ChangeAt Go.RowKit Go.Abs
set_option linter.unusedVariables false

theorem own : ownKnob Tryd.prog.godebug = none := by kernel_rfl
theorem laidOut : laidOutB Tryd.prog = true := by kernel_rfl
theorem works_said (H : Heap) : Said Ct.C.c (.call Ct.C.w [] H) (.val (.bool true) H) := (Said.frame Ev.said16 H : Said Ev.C (.call 16 [] H) (.val (.bool true) H))

set_option maxRecDepth 100000 in
/-- The variable's cells, as the text lays them. -/
theorem globs {W : World} (hL : laidMetH Tryd.prog [("bellarmine/chart.otherEnds", Rows.laid_bellarmine_chart_otherEnds)] W) : GlobIn W.heap.size W := by
  rw [MakeChecks.laidMetH_plain _ _ _ (by kernel_rfl)] at hL
  obtain ⟨ps, hv, _⟩ := hL
  obtain ⟨cs, fuel, p, q, hc, hd, _⟩ := cells_of_laid hv (g := 0) (by kernel_rfl) (t := 75) (by kernel_rfl)
  have h2 : cs.toList = otherEnds9 := cells_lits (ns := [1, 0, 3, 2, 5, 4, 7, 6, 9, 8, 11, 10, 13, 12, 15, 14]) Tryd.underlying75 Tryd.underlying3 (by kernel_rfl) (by kernel_rfl) hd
  intro g ls hg
  have hg' : (bif Nat.beq g 0 then some otherEnds9 else none) = some ls := hg
  cases e0 : Nat.beq g 0 with
  | true =>
    rw [e0, cond_true] at hg'
    obtain rfl := Nat.eq_of_beq_eq_true e0
    obtain rfl := Option.some.inj hg'
    refine glob_of_cells (by simp [otherEnds9]) fun i x hx => ?_
    rw [hc, ← Array.getElem?_toList, h2, ← hx]
  | false => rw [e0, cond_false] at hg'; cases hg'

set_option maxRecDepth 100000 in
theorem lifted (os : Os) (started : os.Started) (H : Type) (enc : TypeId × Value → H) :
    ReturnsInHanded {} Tryd.checked os 5 .any (fun w args => (Rows.chartColoursSpec.pre enc Tryd.prog Tryd.f5 [] false w args ∧ laidMetH Tryd.prog Rows.chartColoursRow.laid w) ∧ sizedMet enc Tryd.prog Tryd.f5 (OpenSpec.ofChange Rows.chartColoursSpec) false w args)
      (Rows.chartColoursSpec.post enc Tryd.prog Tryd.f5 false true false false) := by
  refine returns_laid_shaped (C := Tryd.checked) (X := fun w _ => laidMetH Tryd.prog Rows.chartColoursRow.laid w) (fun _ _ _ hh h => h.of_heap hh) own started (by kernel_rfl) Tryd.func5
    (ChangeSpec.witness_at (enc := enc) (C := Tryd.checked) (os := os) (X := fun w _ => laidMetH Tryd.prog Rows.chartColoursRow.laid w) false (World.laidAll Tryd.prog os Rows.chartColoursRow.laid) #[.agg #[.slice none 0 0], .slice none 0 0] 8 (World.laidAll_os _ _ _) (by kernel_rfl) (by kernel_rfl) (by kernel_rfl) (by kernel_rfl) (by kernel_rfl)
      (by rw [MakeChecks.laidMetH_plain _ _ _ (by kernel_rfl)]; exact laidMet_laidAll _ (by kernel_rfl) (by kernel_rfl))) ?_
  intro W base args ds gs before hval0 hW _ hL hsh
  have hval : ∀ (j : Nat) t v, Tryd.f5.params[j]? = some t → args[j]? = some v → Value.okWide Tryd.prog W .any base t v := hval0
  have hW' := hW
  obtain ⟨p, q, hA0, hV, rfl, hfz, hnd⟩ := hW
  have hA : DataW.TrodAll enc Tryd.prog W 0 (fun _ => true) true Tryd.f5.params.toList args.toList ds p := hA0
  have hA2 := hA
  rw [Tryd.params5] at hA hval
  obtain ⟨v0, l0, d0, e0, p0, q0, hl0, rfl, rfl, h0, h⟩ := trodAll_cons hA
  obtain ⟨v1, l1, d1, e1, p1, q1, rfl, rfl, rfl, h1, h⟩ := trodAll_cons h
  obtain ⟨rfl, rfl, rfl⟩ := trodAll_nil h
  obtain rfl : args = #[v0, v1] := by cases args; simp_all
  obtain ⟨rfl, rfl⟩ := trodVars_none hV
  have hG := globs hL
  clear hA0 hval0
  rw [List.append_nil] at hW'
  obtain ⟨σ0, H0, M0, n0, sv0, fs0, s0, i0, m0, r0, hS0⟩ := (Inp.nil Tryd.prog W hG).boxed Tryd.underlying24 ⟨rfl, rfl⟩ Tryd.underlying3 Tryd.underlying22 Tryd.underlying45 (by kernel_rfl) (by kernel_rfl) (by kernel_rfl) (by kernel_rfl) (hval 0 24 v0 rfl rfl) h0
  obtain ⟨σ1, H1, M1, n1, wv1, ws1, s1, i1, m1, r1, hS1, mono1, keep1⟩ := i0.intsArg Tryd.underlying45 Tryd.underlying3 (by kernel_rfl) (hval 1 45 v1 rfl rfl) h1
  have hcalls := calls_of_FS_inp (C := Ct.C) Ct.ok works_said i1 (args := [.agg #[sv0], wv1]) (args' := #[v0, v1])
    (.cons (r0.le s1) (.cons r1 .nil))
    (Ct.ChartColours_fs i1.has (hS0.mono m1) hS1)
  refine hcalls.mono fun e W' ⟨he, hg, hold⟩ => ?_
  subst he
  exact ⟨_, rfl, post_of_same (pa := _) (pv := []) hW' (fun _ _ _ => (trodAll_cons_mk (shut_bool Tryd.underlying4 _) trodAll_mk0))
    (fun sp hsp => trodAll_stays laidOut (by rw [Tryd.params5]; exact of_decide_eq_true (by kernel_rfl)) hA2 (fun q hq => sameAt_old (hold _ (hW'.lt q hq))) (fun q hq => hsp q hq)) (fun _ _ => rfl) (by simp)
    (hg.frame _) hg.2.1 (ok_one (by kernel_rfl) rfl (okWide_bool_mk Tryd.underlying4 _))⟩

theorem over : Rows.chartColoursRow.holds Tryd.pinned (OpenSpec.ofChange Rows.chartColoursSpec) :=
  OpenClaim.holds_of_wide 5 Tryd.f5 rfl rfl rfl rfl rfl rfl rfl ⟨rfl, rfl, rfl, rfl, rfl⟩ rfl rfl rfl rfl rfl (by kernel_rfl) Tryd.func5 (by kernel_rfl)
    (of_decide_eq_true (by kernel_rfl)) (by unfold Func.isWrapper; first | (rw [if_pos (by decide +kernel)]; kernel_rfl) | (rw [if_neg (by decide +kernel)]; exact ⟨rfl, rfl⟩))
    (fun os started H enc _ => lifted os started H enc)

theorem chartColours : Rows.ChartColoursCardSaid :=
  Claim7.holds_tied_plain_at .later [] [.data] true (true, "ef06e54900a0585be641f4c2694587d3fa5d9a56755befa69bccfd592b7415f0") false over (fun _ h => by cases h) (by kernel_rfl) (fun _ h => by cases h) chartColours_row_tie rfl ⟨rfl, rfl⟩ (by kernel_rfl) rfl
    (fun f fn hf hfn => by
      obtain rfl : f = 5 := Option.some.inj ((show Tryd.prog.funcNamed "bellarmine/bellarminelaw09.ChartColours" = some 5 by kernel_rfl).symm.trans hf) |>.symm
      obtain rfl : fn = Tryd.f5 := (Option.some.inj (Tryd.func5.symm.trans hfn)).symm
      exact ⟨by kernel_rfl, fun j t ht => by
        rw [Tryd.params5] at ht
        rcases j with _ | _ | j
        · obtain rfl := Option.some.inj (show some 24 = some t from ht)
          kernel_rfl
        · obtain rfl := Option.some.inj (show some 45 = some t from ht)
          kernel_rfl
        · cases ht⟩)
    (by kernel_rfl)
#print axioms chartColours
end Go.Proofs.YtmgmkglmjmaipaaDoor
