/- The law StyleLeft returns true, whatever its input: of all sets of forms whose loss leaves an order the first of the smallest is returned, and a form less loses one at most. No condition. -/
import Derived.Test.YtckpocjeikkblaaJ3
import Derived.Test.YtckpocjeikkblaaStF
import Derived.Test.YtckpocjeikkblaaLift
import Derived.Test.YtckpocjeikkblaaKnT15
namespace Go.Proofs.Ytckpocjeikkblaa
open Go.ChangeShapes Go.WideShapes Go.ChangeAt Go.RowKit Go.Abs
set_option linter.unusedVariables false

theorem own : ownKnob Try.prog.godebug = none := by kernel_rfl
theorem laidOut : laidOutB Try.prog = true := by kernel_rfl

theorem works_said (H : Heap) : Said St.C.c (.call St.C.w [] H) (.val (.bool true) H) := (Said.frame Ev.said15 H : Said Ev.C (.call 15 [] H) (.val (.bool true) H))

theorem walk {a b : Int} {hs : List Int} (ha : 0 ≤ a ∧ a ≤ 255) (hb : 0 ≤ b ∧ b ≤ 255) (hl : hs.length = 10) (hu : ∀ x ∈ hs, 0 ≤ x ∧ x ≤ 255) (w : World) :
    Calls Try.prog 9 #[.agg (St.trays a b hs).toArray] w fun e w' => e = .returned (.bool true) ∧ Grown w w' :=
  calls_of_FS (C := St.C) St.ok works_said (args := [.agg (St.trays a b hs).toArray]) (by simp [plainV, plain1, St.trays]) (St.StyleLeft_fs (hasH.nil noHeap) ha hb hl hu) w

set_option maxRecDepth 100000 in
theorem lifted (os : Os) (started : os.Started) (H : Type) (enc : TypeId × Value → H) :
    ReturnsInHanded {} Try.checked os 9 .any (Rows.styleLeftSpec.pre6 enc Try.prog Try.f9 Rows.styleLeftRow.domain false) (Rows.styleLeftSpec.post enc Try.prog Try.f9 false true false false) := by
  refine returnsInHanded_of_change (C := Try.checked) own started (by kernel_rfl) Try.func9
    (ChangeSpec.witness6 (enc := enc) (C := Try.checked) false ⟨#[], #[.agg (List.replicate 12 (Value.int .u8 0)).toArray], []⟩ 8 (by kernel_rfl) (by kernel_rfl) (by kernel_rfl) (by kernel_rfl)) ?_
  intro W base args ds gs before hval0 hW hcnd _
  have hval : ∀ (j : Nat) t v, Try.f9.params[j]? = some t → args[j]? = some v → Value.okWide Try.prog W .any base t v := hval0
  have hW' := hW
  obtain ⟨p, q, hA0, hV, rfl, hfz, hnd⟩ := hW
  have hA : DataW.TrodAll enc Try.prog W 0 (fun _ => true) true Try.f9.params.toList args.toList ds p := hA0
  have hA2 := hA
  rw [Try.params9] at hA hval
  obtain ⟨v0, d0, rfl, rfl, h0⟩ := trodAll_one hA
  obtain ⟨rfl, rfl⟩ := trodVars_none hV
  obtain ⟨a, b, hs, hl, rfl, rfl, ha, hb, hh⟩ := open_two_arr (n := 10) Try.underlying60 ⟨rfl, rfl⟩ ⟨rfl, rfl⟩ ⟨rfl, rfl⟩ Try.underlying5 Try.underlying5 Try.underlying58 Try.underlying5 (by kernel_rfl) (by kernel_rfl) (by kernel_rfl) (by kernel_rfl) (by kernel_rfl) (hval 0 60 v0 rfl rfl) h0
  clear hA0 hval0
  simp only [List.append_nil] at hW' hA2
  refine (walk (a := a) (b := b) (hs := hs) (byte_bd ha) (byte_bd hb) hl (fun x hx => byte_bd (hh x hx)) W).mono fun e W' ⟨he, hg⟩ => ?_
  subst he
  exact ⟨_, rfl, post_of_same (pa := []) (pv := []) hW' (fun _ _ _ => (trodAll_cons_mk (shut_bool Try.underlying4 _) trodAll_mk0))
    (fun sp _ => trodAll_stays laidOut (by rw [Try.params9]; exact of_decide_eq_true (by kernel_rfl)) hA2 (fun p hp => by cases hp) (fun p hp => by cases hp)) (fun _ _ => rfl) rfl
    (hg.frame _) hg.2.1 (ok_one (by kernel_rfl) rfl (okWide_bool_mk Try.underlying4 _))⟩

theorem over : Rows.styleLeftRow.holds Try.pinned (OpenSpec.ofChange Rows.styleLeftSpec) :=
  OpenClaim.holds_of_wide 9 Try.f9 rfl rfl rfl rfl rfl rfl rfl ⟨rfl, rfl, rfl, rfl, rfl⟩ rfl rfl rfl rfl rfl (by kernel_rfl) Try.func9 (by kernel_rfl)
    (of_decide_eq_true (by kernel_rfl)) (by unfold Func.isWrapper; first | (rw [if_pos (by decide +kernel)]; kernel_rfl) | (rw [if_neg (by decide +kernel)]; exact ⟨rfl, rfl⟩))
    (fun os started H enc _ => lifted os started H enc)

theorem styleLeft : Rows.StyleLeftSaid :=
  over
#print axioms styleLeft
end Go.Proofs.Ytckpocjeikkblaa
