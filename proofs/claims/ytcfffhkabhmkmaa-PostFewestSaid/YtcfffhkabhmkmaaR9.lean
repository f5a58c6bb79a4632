/- The law PostFewest returns true, whatever its input: the fewest posts, the most places that are apart, and the cheapest posts, are the reference's answers, for any two lists. No condition. -/
import Derived.Test.YtcfffhkabhmkmaaJ4
import Derived.Test.YtcfffhkabhmkmaaPsF
import Derived.Test.YtcfffhkabhmkmaaJ5
import Derived.Test.YtcfffhkabhmkmaaKnT8

namespace Go.Proofs.Ytcfffhkabhmkmaa
open Go.ChangeShapes Go.WideShapes Go.ChangeAt Go.RowKit Go.Abs
set_option linter.unusedVariables false

theorem own : ownKnob Try.prog.godebug = none := by kernel_rfl
theorem laidOut : laidOutB Try.prog = true := by kernel_rfl

theorem works_said (H : Heap) : Said Ps.C.c (.call Ps.C.w [] H) (.val (.bool true) H) := (Said.frame Ev.said8 H : Said Ev.C (.call 8 [] H) (.val (.bool true) H))

set_option maxRecDepth 100000 in
theorem lifted (os : Os) (started : os.Started) (H : Type) (enc : TypeId × Value → H) :
    ReturnsInHanded {} Try.checked os 4 .any (Rows.postFewestSpec.pre6 enc Try.prog Try.f4 Rows.postFewestRow.domain false) (Rows.postFewestSpec.post enc Try.prog Try.f4 false true false false) := by
  refine returnsInHanded_of_change (C := Try.checked) own started (by kernel_rfl) Try.func4
    (ChangeSpec.witness6 (enc := enc) (C := Try.checked) false ⟨#[], #[.slice none 0 0, .slice none 0 0], []⟩ 8 (by kernel_rfl) (by kernel_rfl) (by kernel_rfl) (by kernel_rfl)) ?_
  intro W base args ds gs before hval0 hW hcnd _
  have hval : ∀ (j : Nat) t v, Try.f4.params[j]? = some t → args[j]? = some v → Value.okWide Try.prog W .any base t v := hval0
  have hW' := hW
  obtain ⟨p, q, hA0, hV, rfl, hfz, hnd⟩ := hW
  have hA : DataW.TrodAll enc Try.prog W 0 (fun _ => true) true Try.f4.params.toList args.toList ds p := hA0
  have hA2 := hA
  rw [Try.params4] at hA hval
  obtain ⟨v0, l0, d0, e0, p0, q0, hl0, rfl, rfl, h0, h⟩ := trodAll_cons hA
  obtain ⟨v1, l1, d1, e1, p1, q1, rfl, rfl, rfl, h1, h⟩ := trodAll_cons h
  obtain ⟨rfl, rfl, rfl⟩ := trodAll_nil h
  obtain rfl : args = #[v0, v1] := by cases args; simp_all
  obtain ⟨rfl, rfl⟩ := trodVars_none hV
  clear hA0 hval0
  rw [List.append_nil] at hW'
  obtain ⟨σ0, H0, M0, n0, wv0, ws0, s0, i0, m0, r0, hS0, mono0, keep0⟩ := (Inp.nil Try.prog W).intsArg Try.underlying22 Try.underlying3 (by kernel_rfl) (hval 0 22 v0 rfl rfl) h0
  obtain ⟨σ1, H1, M1, n1, wv1, ws1, s1, i1, m1, r1, hS1, mono1, keep1⟩ := i0.intsArg Try.underlying22 Try.underlying3 (by kernel_rfl) (hval 1 22 v1 rfl rfl) h1
  have hcalls := calls_of_FS_inp (C := Ps.C) Ps.ok works_said i1 (args := [wv0, wv1]) (args' := #[v0, v1])
    (.cons (r0.le s1) (.cons r1 .nil))
    (Ps.PostFewest_fs i1.has (hS0.mono m1) hS1)
  refine hcalls.mono fun e W' ⟨he, hg, hold⟩ => ?_
  subst he
  exact ⟨_, rfl, post_of_same (pa := _) (pv := []) hW' (fun _ _ _ => (trodAll_cons_mk (shut_bool Try.underlying4 _) trodAll_mk0))
    (fun sp hsp => trodAll_stays laidOut (by rw [Try.params4]; exact of_decide_eq_true (by kernel_rfl)) hA2 (fun q hq => sameAt_old (hold _ (hW'.lt q hq))) (fun q hq => hsp q hq)) (fun _ _ => rfl) (by simp)
    (hg.frame _) hg.2.1 (ok_one (by kernel_rfl) rfl (okWide_bool_mk Try.underlying4 _))⟩

theorem over : Rows.postFewestRow.holds Try.pinned (OpenSpec.ofChange Rows.postFewestSpec) :=
  OpenClaim.holds_of_wide 4 Try.f4 rfl rfl rfl rfl rfl rfl rfl ⟨rfl, rfl, rfl, rfl, rfl⟩ rfl rfl rfl rfl rfl (by kernel_rfl) Try.func4 (by kernel_rfl)
    (of_decide_eq_true (by kernel_rfl)) (by unfold Func.isWrapper; first | (rw [if_pos (by decide +kernel)]; kernel_rfl) | (rw [if_neg (by decide +kernel)]; exact ⟨rfl, rfl⟩))
    (fun os started H enc _ => lifted os started H enc)

theorem postFewest : Rows.PostFewestSaid :=
  over
#print axioms postFewest
end Go.Proofs.Ytcfffhkabhmkmaa
