/- The law LockCounts returns true, whatever its input: how many of the orders of a number of barges are sorted by a number of passes is the reference's count; outside 1 to 7 barges and a number not under 0 both refuse. No condition. -/
import Derived.Test.YtfnflkcjhefddaaJ3
import Derived.Test.YtfnflkcjhefddaaLkF
import Derived.Test.YtfnflkcjhefddaaLiftR
import Derived.Test.YtfnflkcjhefddaaKnT15
namespace Go.Proofs.Ytfnflkcjhefddaa
open Go.ChangeShapes Go.WideShapes Go.ChangeAt Go.RowKit Go.Abs
set_option linter.unusedVariables false

theorem own : ownKnob Try.prog.godebug = none := by kernel_rfl
theorem laidOut : laidOutB Try.prog = true := by kernel_rfl

theorem works_said (H : Heap) : Said Lk.C.c (.call Lk.C.w [] H) (.val (.bool true) H) := (Said.frame Ev.said15 H : Said Ev.C (.call 15 [] H) (.val (.bool true) H))

set_option maxRecDepth 100000 in
theorem lifted (os : Os) (started : os.Started) (H : Type) (enc : TypeId × Value → H) :
    ReturnsInHanded {} Try.checked os 5 .any (Rows.lockCountsSpec.pre6 enc Try.prog Try.f5 Rows.lockCountsRow.domain false) (Rows.lockCountsSpec.post enc Try.prog Try.f5 false true false false) := by
  refine returnsInHanded_of_change (C := Try.checked) own started (by kernel_rfl) Try.func5
    (ChangeSpec.witness6 (enc := enc) (C := Try.checked) false ⟨#[], #[.int .i64 0, .int .i64 0], []⟩ 8 (by kernel_rfl) (by kernel_rfl) (by kernel_rfl) (by kernel_rfl)) ?_
  intro W base args ds gs before hval0 hW hcnd _
  have hval : ∀ (j : Nat) t v, Try.f5.params[j]? = some t → args[j]? = some v → Value.okWide Try.prog W .any base t v := hval0
  have hW' := hW
  obtain ⟨p, q, hA0, hV, rfl, hfz, hnd⟩ := hW
  have hA : DataW.TrodAll enc Try.prog W 0 (fun _ => true) true Try.f5.params.toList args.toList ds p := hA0
  have hA2 := hA
  rw [Try.params5] at hA hval
  obtain ⟨v0, l0, d0, e0, p0, q0, hl0, rfl, rfl, h0, h⟩ := trodAll_cons hA
  obtain ⟨v1, l1, d1, e1, p1, q1, rfl, rfl, rfl, h1, h⟩ := trodAll_cons h
  obtain ⟨rfl, rfl, rfl⟩ := trodAll_nil h
  obtain rfl : args = #[v0, v1] := by cases args; simp_all
  obtain ⟨rfl, rfl⟩ := trodVars_none hV
  clear hA0 hval0
  rw [List.append_nil] at hW'
  obtain ⟨a0, rfl, rfl, rfl, _⟩ := open_int Try.underlying3 (hval 0 3 v0 rfl rfl) h0
  obtain ⟨a1, rfl, rfl, rfl, _⟩ := open_int Try.underlying3 (hval 1 3 v1 rfl rfl) h1
  have hcalls := calls_of_FS_inp (C := Lk.C) Lk.ok works_said (Inp.nil Try.prog W) (args := [.int .i64 a0, .int .i64 a1]) (args' := #[.int .i64 a0, .int .i64 a1])
    (.cons (.int _ _) (.cons (.int _ _) .nil))
    (Lk.LockCounts_fs (Inp.nil Try.prog W).has _ _)
  refine hcalls.mono fun e W' ⟨he, hg, hold⟩ => ?_
  subst he
  exact ⟨_, rfl, post_of_same (pa := _) (pv := []) hW' (fun _ _ _ => (trodAll_cons_mk (shut_bool Try.underlying4 _) trodAll_mk0))
    (fun sp hsp => trodAll_stays laidOut (by rw [Try.params5]; exact of_decide_eq_true (by kernel_rfl)) hA2 (fun q hq => sameAt_old (hold _ (hW'.lt q hq))) (fun q hq => hsp q hq)) (fun _ _ => rfl) (by simp)
    (hg.frame _) hg.2.1 (ok_one (by kernel_rfl) rfl (okWide_bool_mk Try.underlying4 _))⟩

theorem over : Rows.lockCountsRow.holds Try.pinned (OpenSpec.ofChange Rows.lockCountsSpec) :=
  OpenClaim.holds_of_wide 5 Try.f5 rfl rfl rfl rfl rfl rfl rfl ⟨rfl, rfl, rfl, rfl, rfl⟩ rfl rfl rfl rfl rfl (by kernel_rfl) Try.func5 (by kernel_rfl)
    (of_decide_eq_true (by kernel_rfl)) (by unfold Func.isWrapper; first | (rw [if_pos (by decide +kernel)]; kernel_rfl) | (rw [if_neg (by decide +kernel)]; exact ⟨rfl, rfl⟩))
    (fun os started H enc _ => lifted os started H enc)

theorem lockCounts : Rows.LockCountsSaid :=
  over
#print axioms lockCounts
end Go.Proofs.Ytfnflkcjhefddaa
