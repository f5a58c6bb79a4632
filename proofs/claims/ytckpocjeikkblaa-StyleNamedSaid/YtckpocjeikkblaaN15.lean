/- The law StyleNamed returns true, whatever its input: if layers get other numbers as many orders fit, as many forms have to be left out, and a first order fits with its other numbers. No condition. -/
import Derived.Test.YtckpocjeikkblaaJ3
import Derived.Test.YtckpocjeikkblaaStF
import Derived.Test.YtckpocjeikkblaaLift
import Derived.Test.YtckpocjeikkblaaKnT15
namespace Go.Proofs.Ytckpocjeikkblaa
open Go.ChangeShapes Go.WideShapes Go.ChangeAt Go.RowKit Go.Abs
set_option linter.unusedVariables false

theorem own : ownKnob Try.prog.godebug = none := by kernel_rfl
theorem laidOut : laidOutB Try.prog = true := by kernel_rfl

theorem works_said (H : Heap) : Said St.C.c (.call St.C.w [] H) (.val (.bool true) H) := (Said.frame Ev.said15 H : Said Ev.C (.call 15 [] H) (.val (.bool true) H))

theorem walk {a b : Int} {hs us : List Int} (ha : 0 ≤ a ∧ a ≤ 255) (hb : 0 ≤ b ∧ b ≤ 255) (hl : hs.length = 10) (hu : ∀ x ∈ hs, 0 ≤ x ∧ x ≤ 255) (hul : us.length = 7) (huu : ∀ x ∈ us, 0 ≤ x ∧ x ≤ 255) (w : World) :
    Calls Try.prog 11 #[.agg (St.trays a b hs).toArray, .agg (St.bytesV us).toArray] w fun e w' => e = .returned (.bool true) ∧ Grown w w' :=
  calls_of_FS (C := St.C) St.ok works_said (args := [.agg (St.trays a b hs).toArray, .agg (St.bytesV us).toArray]) (by simp [plainV, plain1, St.trays]) (St.StyleNamed_fs (hasH.nil noHeap) ha hb hl hu hul huu) w

set_option maxRecDepth 100000 in
theorem lifted (os : Os) (started : os.Started) (H : Type) (enc : TypeId × Value → H) :
    ReturnsInHanded {} Try.checked os 11 .any (Rows.styleNamedSpec.pre6 enc Try.prog Try.f11 Rows.styleNamedRow.domain false) (Rows.styleNamedSpec.post enc Try.prog Try.f11 false true false false) := by
  refine returnsInHanded_of_change (C := Try.checked) own started (by kernel_rfl) Try.func11
    (ChangeSpec.witness6 (enc := enc) (C := Try.checked) false ⟨#[], #[.agg (List.replicate 12 (Value.int .u8 0)).toArray, .agg (List.replicate 7 (Value.int .u8 0)).toArray], []⟩ 8 (by kernel_rfl) (by kernel_rfl) (by kernel_rfl) (by kernel_rfl)) ?_
  intro W base args ds gs before hval0 hW hcnd _
  have hval : ∀ (j : Nat) t v, Try.f11.params[j]? = some t → args[j]? = some v → Value.okWide Try.prog W .any base t v := hval0
  have hW' := hW
  obtain ⟨p, q, hA0, hV, rfl, hfz, hnd⟩ := hW
  have hA : DataW.TrodAll enc Try.prog W 0 (fun _ => true) true Try.f11.params.toList args.toList ds p := hA0
  have hA2 := hA
  rw [Try.params11] at hA hval
  obtain ⟨v0, v1, d0, d1, p0, p1, rfl, rfl, rfl, h0, h1⟩ := trodAll_two hA
  obtain ⟨rfl, rfl⟩ := trodVars_none hV
  obtain ⟨a, b, hs, hl, rfl, rfl, ha, hb, hh⟩ := open_two_arr (n := 10) Try.underlying60 ⟨rfl, rfl⟩ ⟨rfl, rfl⟩ ⟨rfl, rfl⟩ Try.underlying5 Try.underlying5 Try.underlying58 Try.underlying5 (by kernel_rfl) (by kernel_rfl) (by kernel_rfl) (by kernel_rfl) (by kernel_rfl) (hval 0 60 v0 rfl rfl) h0
  obtain ⟨us, hul, rfl, rfl, huu⟩ := open_arrK (n := 7) Try.underlying74 Try.underlying5 (by kernel_rfl) (by kernel_rfl) (hval 1 74 v1 rfl rfl) h1
  clear hA0 hval0
  simp only [List.append_nil] at hW' hA2
  refine (walk (a := a) (b := b) (hs := hs) (us := us) (byte_bd ha) (byte_bd hb) hl (fun x hx => byte_bd (hh x hx)) hul (fun x hx => byte_bd (huu x hx)) W).mono fun e W' ⟨he, hg⟩ => ?_
  subst he
  exact ⟨_, rfl, post_of_same (pa := []) (pv := []) hW' (fun _ _ _ => (trodAll_cons_mk (shut_bool Try.underlying4 _) trodAll_mk0))
    (fun sp _ => trodAll_stays laidOut (by rw [Try.params11]; exact of_decide_eq_true (by kernel_rfl)) hA2 (fun p hp => by cases hp) (fun p hp => by cases hp)) (fun _ _ => rfl) rfl
    (hg.frame _) hg.2.1 (ok_one (by kernel_rfl) rfl (okWide_bool_mk Try.underlying4 _))⟩

theorem over : Rows.styleNamedRow.holds Try.pinned (OpenSpec.ofChange Rows.styleNamedSpec) :=
  OpenClaim.holds_of_wide 11 Try.f11 rfl rfl rfl rfl rfl rfl rfl ⟨rfl, rfl, rfl, rfl, rfl⟩ rfl rfl rfl rfl rfl (by kernel_rfl) Try.func11 (by kernel_rfl)
    (of_decide_eq_true (by kernel_rfl)) (by unfold Func.isWrapper; first | (rw [if_pos (by decide +kernel)]; kernel_rfl) | (rw [if_neg (by decide +kernel)]; exact ⟨rfl, rfl⟩))
    (fun os started H enc _ => lifted os started H enc)

theorem styleNamed : Rows.StyleNamedSaid :=
  over
#print axioms styleNamed
end Go.Proofs.Ytckpocjeikkblaa
