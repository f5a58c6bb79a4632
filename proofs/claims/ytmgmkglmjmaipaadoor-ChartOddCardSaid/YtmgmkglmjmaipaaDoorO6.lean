/- The law ChartOdd returns true, whatever its input: there is a ring of an odd number of points just if two colours are not enough; the ring that is returned is one, and none is shorter. No condition. -/
import Derived.Test.YtmgmkglmjmaipaaDoorJ4
import Derived.Test.YtmgmkglmjmaipaaDoorR0
import Derived.Test.YtmgmkglmjmaipaaDoorCtF
import Derived.Test.YtmgmkglmjmaipaaDoorKnT16
import Derived.WalkKit
import Derived.ProofKit
import Derived.OpenShut
import Derived.Lay
import Derived.MakeChecks
import Derived.LaidByTextLater
import Derived.LaidOnce
import Derived.Shelf.Vars
import Derived.SevenTiedAt
import Derived.Test.YtmgmkglmjmaipaaDoorTie
import Derived.Test.YtmgmkglmjmaipaaDoorCards
namespace Go.Proofs.YtmgmkglmjmaipaaDoor
open Go.ChangeShapes Go.WideShapes Go.ChangeAt Go.RowKit Go.Abs
set_option linter.unusedVariables false

theorem own : ownKnob Tryd.prog.godebug = none := by kernel_rfl
theorem laidOut : laidOutB Tryd.prog = true := by kernel_rfl
theorem works_said (H : Heap) : Said Ct.C.c (.call Ct.C.w [] H) (.val (.bool true) H) := (Said.frame Ev.said16 H : Said Ev.C (.call 16 [] H) (.val (.bool true) H))

set_option maxRecDepth 100000 in
/-- The variable's cells, as the text lays them. -/
theorem globs {W : World} (hL : laidMetH Tryd.prog [("bellarmine/chart.otherEnds", Rows.laid_bellarmine_chart_otherEnds)] W) : GlobIn W.heap.size W := by
  rw [MakeChecks.laidMetH_plain _ _ _ (by kernel_rfl)] at hL
  obtain ⟨ps, hv, _⟩ := hL
  obtain ⟨cs, fuel, p, q, hc, hd, _⟩ := cells_of_laid hv (g := 0) (by kernel_rfl) (t := 75) (by kernel_rfl)
  have h2 : cs.toList = otherEnds9 := cells_lits (ns := [1, 0, 3, 2, 5, 4, 7, 6, 9, 8, 11, 10, 13, 12, 15, 14]) Tryd.underlying75 Tryd.underlying3 (by kernel_rfl) (by kernel_rfl) hd
  intro g ls hg
  have hg' : (bif Nat.beq g 0 then some otherEnds9 else none) = some ls := hg
  cases e0 : Nat.beq g 0 with
  | true =>
    rw [e0, cond_true] at hg'
    obtain rfl := Nat.eq_of_beq_eq_true e0
    obtain rfl := Option.some.inj hg'
    refine glob_of_cells (by simp [otherEnds9]) fun i x hx => ?_
    rw [hc, ← Array.getElem?_toList, h2, ← hx]
  | false => rw [e0, cond_false] at hg'; cases hg'

theorem walk {x b : Nat} {ord : List Nat} (hx : x ≤ 255) (ho : ord.length = 16) (hob : ∀ y ∈ ord, y ≤ 255) (hb : b < 65536) (w : World) (hG : GlobIn w.heap.size w) :
    Calls Tryd.prog 12 #[.agg (Ct.skV x ord b).toArray] w fun e w' => e = .returned (.bool true) ∧ Grown w w' :=
  calls_of_FS (C := Ct.C) Ct.ok works_said (args := [.agg (Ct.skV x ord b).toArray]) (by simp [plainV, plain1, List.all_map, List.all_append, Ct.skV]) (Ct.ChartOdd_fs (hasH.nil noHeap) hx ho hob hb) w hG

set_option maxRecDepth 100000 in
theorem lifted (os : Os) (started : os.Started) (H : Type) (enc : TypeId × Value → H) :
    ReturnsInHanded {} Tryd.checked os 12 .any (fun w args => (Rows.chartOddSpec.pre enc Tryd.prog Tryd.f12 [] false w args ∧ laidMetH Tryd.prog Rows.chartOddRow.laid w) ∧ sizedMet enc Tryd.prog Tryd.f12 (OpenSpec.ofChange Rows.chartOddSpec) false w args)
      (Rows.chartOddSpec.post enc Tryd.prog Tryd.f12 false true false false) := by
  refine returns_laid_shaped (C := Tryd.checked) (X := fun w _ => laidMetH Tryd.prog Rows.chartOddRow.laid w) (fun _ _ _ hh h => h.of_heap hh) own started (by kernel_rfl) Tryd.func12
    (ChangeSpec.witness_at (enc := enc) (C := Tryd.checked) (os := os) (X := fun w _ => laidMetH Tryd.prog Rows.chartOddRow.laid w) false (World.laidAll Tryd.prog os Rows.chartOddRow.laid) #[.agg (List.replicate 17 (Value.int .u8 0) ++ [Value.int .u16 0]).toArray] 8 (World.laidAll_os _ _ _) (by kernel_rfl) (by kernel_rfl) (by kernel_rfl) (by kernel_rfl) (by kernel_rfl)
      (by rw [MakeChecks.laidMetH_plain _ _ _ (by kernel_rfl)]; exact laidMet_laidAll _ (by kernel_rfl) (by kernel_rfl))) ?_
  intro W base args ds gs before hval0 hW _ hL hsh
  have hval : ∀ (j : Nat) t v, Tryd.f12.params[j]? = some t → args[j]? = some v → Value.okWide Tryd.prog W .any base t v := hval0
  have hW' := hW
  obtain ⟨p, q, hA0, hV, rfl, hfz, hnd⟩ := hW
  have hA : DataW.TrodAll enc Tryd.prog W 0 (fun _ => true) true Tryd.f12.params.toList args.toList ds p := hA0
  have hA2 := hA
  rw [Tryd.params12] at hA hval
  obtain ⟨v0, l0, d0, e0, p0, q0, hl0, rfl, rfl, h0, h⟩ := trodAll_cons hA
  obtain ⟨rfl, rfl, rfl⟩ := trodAll_nil h
  obtain rfl : args = #[v0] := by cases args; simp_all
  obtain ⟨rfl, rfl⟩ := trodVars_none hV
  obtain ⟨xs, ys, hxl, hyl, rfl, rfl, hxw, hyw⟩ := open_two Tryd.underlying57 (fs1 := [_, _]) (fs2 := [_]) rfl (.cons (.int Tryd.underlying5 (by kernel_rfl)) rfl (.cons (.arr Tryd.underlying54 Tryd.underlying5 (by kernel_rfl) (by kernel_rfl)) rfl (.nil _))) (.cons (.int Tryd.underlying55 (by kernel_rfl)) rfl (.nil _)) (by kernel_rfl) (hval 0 57 v0 rfl rfl) h0
  obtain ⟨x, ord, b, hxo, hx, ho, hob, hb⟩ := Ct.sk_of hxl hyl hxw hyw
  clear hA0 hval0
  simp only [List.append_nil] at hW' hA2
  have hG := globs hL
  rw [hxo] at hA2 hW' ⊢
  refine (walk hx ho hob hb W hG).mono fun e W' ⟨he, hg⟩ => ?_
  subst he
  exact ⟨_, rfl, post_of_same (pa := []) (pv := []) hW' (fun _ _ _ => (trodAll_cons_mk (shut_bool Tryd.underlying4 _) trodAll_mk0))
    (fun sp _ => trodAll_stays laidOut (by rw [Tryd.params12]; exact of_decide_eq_true (by kernel_rfl)) hA2 (fun p hp => by cases hp) (fun p hp => by cases hp)) (fun _ _ => rfl) rfl
    (hg.frame _) hg.2.1 (ok_one (by kernel_rfl) rfl (okWide_bool_mk Tryd.underlying4 _))⟩

theorem over : Rows.chartOddRow.holds Tryd.pinned (OpenSpec.ofChange Rows.chartOddSpec) :=
  OpenClaim.holds_of_wide 12 Tryd.f12 rfl rfl rfl rfl rfl rfl rfl ⟨rfl, rfl, rfl, rfl, rfl⟩ rfl rfl rfl rfl rfl (by kernel_rfl) Tryd.func12 (by kernel_rfl)
    (of_decide_eq_true (by kernel_rfl)) (by unfold Func.isWrapper; first | (rw [if_pos (by decide +kernel)]; kernel_rfl) | (rw [if_neg (by decide +kernel)]; exact ⟨rfl, rfl⟩))
    (fun os started H enc _ => lifted os started H enc)

theorem chartOdd : Rows.ChartOddCardSaid :=
  Claim7.holds_tied_plain_at .later [] [.data] true (true, "ef06e54900a0585be641f4c2694587d3fa5d9a56755befa69bccfd592b7415f0") false over (fun _ h => by cases h) (by kernel_rfl) (fun _ h => by cases h) chartOdd_row_tie rfl ⟨rfl, rfl⟩ (by kernel_rfl) rfl
    (fun f fn hf hfn => by
      obtain rfl : f = 12 := Option.some.inj ((show Tryd.prog.funcNamed "bellarmine/bellarminelaw09.ChartOdd" = some 12 by kernel_rfl).symm.trans hf) |>.symm
      obtain rfl : fn = Tryd.f12 := (Option.some.inj (Tryd.func12.symm.trans hfn)).symm
      exact ⟨by kernel_rfl, fun j t ht => by
        rw [Tryd.params12] at ht
        rcases j with _ | j
        · obtain rfl := Option.some.inj (show some 57 = some t from ht)
          kernel_rfl
        · cases ht⟩)
    (by kernel_rfl)
#print axioms chartOdd
end Go.Proofs.YtmgmkglmjmaipaaDoor
