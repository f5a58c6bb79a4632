/- The law StyleFits returns true, whatever its input: the first order that fits, how many do, and layers that are always next to one another are as stated. No condition. -/
import Derived.Test.YtckpocjeikkblaaJ3
import Derived.Test.YtckpocjeikkblaaStF
import Derived.Test.YtckpocjeikkblaaLiftR
import Derived.Test.YtckpocjeikkblaaKnT15
namespace Go.Proofs.Ytckpocjeikkblaa
open Go.ChangeShapes Go.WideShapes Go.ChangeAt Go.RowKit Go.Abs
set_option linter.unusedVariables false

theorem own : ownKnob Try.prog.godebug = none := by kernel_rfl
theorem laidOut : laidOutB Try.prog = true := by kernel_rfl

theorem works_said (H : Heap) : Said St.C.c (.call St.C.w [] H) (.val (.bool true) H) := (Said.frame Ev.said15 H : Said Ev.C (.call 15 [] H) (.val (.bool true) H))

set_option maxRecDepth 100000 in
theorem lifted (os : Os) (started : os.Started) (H : Type) (enc : TypeId × Value → H) :
    ReturnsInHanded {} Try.checked os 4 .any (Rows.styleFitsSpec.pre6 enc Try.prog Try.f4 Rows.styleFitsRow.domain false) (Rows.styleFitsSpec.post enc Try.prog Try.f4 false true false false) := by
  refine returnsInHanded_of_change (C := Try.checked) own started (by kernel_rfl) Try.func4
    (ChangeSpec.witness6 (enc := enc) (C := Try.checked) false ⟨#[], #[.agg #[.int .i64 0, .slice none 0 0]], []⟩ 8 (by kernel_rfl) (by kernel_rfl) (by kernel_rfl) (by kernel_rfl)) ?_
  intro W base args ds gs before hval0 hW hcnd _
  have hval : ∀ (j : Nat) t v, Try.f4.params[j]? = some t → args[j]? = some v → Value.okWide Try.prog W .any base t v := hval0
  have hW' := hW
  obtain ⟨p, q, hA0, hV, rfl, hfz, hnd⟩ := hW
  have hA : DataW.TrodAll enc Try.prog W 0 (fun _ => true) true Try.f4.params.toList args.toList ds p := hA0
  have hA2 := hA
  rw [Try.params4] at hA hval
  obtain ⟨v0, d0, rfl, rfl, h0⟩ := trodAll_one hA
  obtain ⟨rfl, rfl⟩ := trodVars_none hV
  clear hA0 hval0
  rw [List.append_nil] at hW'
  obtain ⟨σ1, H1, M1, n1, a, sv, fs, s1, i1, m1, r1, l1⟩ := (Inp.nil Try.prog W).finds Try.underlying24 ⟨rfl, rfl⟩ ⟨rfl, rfl⟩ Try.underlying3 Try.underlying22 Try.underlying25 (by kernel_rfl) (by kernel_rfl) (by kernel_rfl) (by kernel_rfl) (hval 0 24 v0 rfl rfl) h0
  have hcalls := calls_of_FS_inp (C := St.C) St.ok works_said i1 (args := [.agg #[.int .i64 a, sv]]) (args' := #[v0]) (.cons r1 .nil)
    (St.StyleFits_fs i1.has l1)
  refine hcalls.mono fun e W' ⟨he, hg, hold⟩ => ?_
  subst he
  exact ⟨_, rfl, post_of_same (pa := p) (pv := []) hW' (fun _ _ _ => (trodAll_cons_mk (shut_bool Try.underlying4 _) trodAll_mk0))
    (fun sp hsp => trodAll_stays laidOut (by rw [Try.params4]; exact of_decide_eq_true (by kernel_rfl)) hA2 (fun q hq => sameAt_old (hold _ (hW'.lt q hq))) (fun q hq => hsp q hq)) (fun _ _ => rfl) (by simp)
    (hg.frame _) hg.2.1 (ok_one (by kernel_rfl) rfl (okWide_bool_mk Try.underlying4 _))⟩

theorem over : Rows.styleFitsRow.holds Try.pinned (OpenSpec.ofChange Rows.styleFitsSpec) :=
  OpenClaim.holds_of_wide 4 Try.f4 rfl rfl rfl rfl rfl rfl rfl ⟨rfl, rfl, rfl, rfl, rfl⟩ rfl rfl rfl rfl rfl (by kernel_rfl) Try.func4 (by kernel_rfl)
    (of_decide_eq_true (by kernel_rfl)) (by unfold Func.isWrapper; first | (rw [if_pos (by decide +kernel)]; kernel_rfl) | (rw [if_neg (by decide +kernel)]; exact ⟨rfl, rfl⟩))
    (fun os started H enc _ => lifted os started H enc)

theorem styleFits : Rows.StyleFitsSaid :=
  over
#print axioms styleFits
end Go.Proofs.Ytckpocjeikkblaa
