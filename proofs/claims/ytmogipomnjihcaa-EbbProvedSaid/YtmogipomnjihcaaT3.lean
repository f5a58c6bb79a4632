/- The law EbbProved returns true, whatever its input: a way leads to the river, as low as the sill, and no shorter one is as low; what Basin returns is a barrier for it, and each of its places has the same sill. No condition. -/
import Derived.Test.YtmogipomnjihcaaJ4
import Derived.Test.YtmogipomnjihcaaEbF
import Derived.Test.YtmogipomnjihcaaLift
import Derived.Test.YtmogipomnjihcaaKnT16
namespace Go.Proofs.Ytmogipomnjihcaa
open Go.ChangeShapes Go.WideShapes Go.ChangeAt Go.RowKit Go.Abs
set_option linter.unusedVariables false

theorem own : ownKnob Try.prog.godebug = none := by kernel_rfl
theorem laidOut : laidOutB Try.prog = true := by kernel_rfl

theorem works_said (H : Heap) : Said Eb.C.c (.call Eb.C.w [] H) (.val (.bool true) H) := (Said.frame Ev.said16 H : Said Ev.C (.call 16 [] H) (.val (.bool true) H))

theorem walk {a b hg : Int} {hs : List Int} (hb : Eb.Bytes a b hs) (h1 : 0 ≤ hg ∧ hg ≤ 255) (w : World) :
    Calls Try.prog 8 #[.agg (Eb.strand a b hs).toArray, .int .u8 hg] w fun e w' => e = .returned (.bool true) ∧ Grown w w' :=
  calls_of_FS (C := Eb.C) Eb.ok works_said (args := [.agg (Eb.strand a b hs).toArray, .int .u8 hg]) (by simp [plainV, plain1]) (Eb.EbbProved_fs (hasH.nil noHeap) hb h1) w

set_option maxRecDepth 100000 in
theorem lifted (os : Os) (started : os.Started) (H : Type) (enc : TypeId × Value → H) :
    ReturnsInHanded {} Try.checked os 8 .any (Rows.ebbProvedSpec.pre6 enc Try.prog Try.f8 Rows.ebbProvedRow.domain false) (Rows.ebbProvedSpec.post enc Try.prog Try.f8 false true false false) := by
  refine returnsInHanded_of_change (C := Try.checked) own started (by kernel_rfl) Try.func8
    (ChangeSpec.witness6 (enc := enc) (C := Try.checked) false ⟨#[], #[.agg (List.replicate 38 (Value.int .u8 0)).toArray, .int .u8 0], []⟩ 8 (by kernel_rfl) (by kernel_rfl) (by kernel_rfl) (by kernel_rfl)) ?_
  intro W base args ds gs before hval0 hW hcnd _
  have hval : ∀ (j : Nat) t v, Try.f8.params[j]? = some t → args[j]? = some v → Value.okWide Try.prog W .any base t v := hval0
  have hW' := hW
  obtain ⟨p, q, hA0, hV, rfl, hfz, hnd⟩ := hW
  have hA : DataW.TrodAll enc Try.prog W 0 (fun _ => true) true Try.f8.params.toList args.toList ds p := hA0
  have hA2 := hA
  rw [Try.params8] at hA hval
  obtain ⟨v0, v1, d0, d1, p0, p1, rfl, rfl, rfl, h0, h1⟩ := trodAll_two hA
  obtain ⟨rfl, rfl⟩ := trodVars_none hV
  obtain ⟨a, b, hs, hl, rfl, rfl, ha, hb, hh⟩ := open_two_arr (n := 36) Try.underlying60 ⟨rfl, rfl⟩ ⟨rfl, rfl⟩ ⟨rfl, rfl⟩ Try.underlying5 Try.underlying5 Try.underlying58 Try.underlying5 (by kernel_rfl) (by kernel_rfl) (by kernel_rfl) (by kernel_rfl) (by kernel_rfl) (hval 0 60 v0 rfl rfl) h0
  obtain ⟨hg, rfl, rfl, rfl, w2⟩ := open_int Try.underlying5 (hval 1 5 v1 rfl rfl) h1
  clear hA0 hval0
  simp only [List.append_nil] at hW' hA2
  refine (walk (a := a) (b := b) (hs := hs) ⟨byte_bd ha, byte_bd hb, hl, fun x hx => byte_bd (hh x hx)⟩ (byte_bd w2) W).mono fun e W' ⟨he, hg⟩ => ?_
  subst he
  exact ⟨_, rfl, post_of_same (pa := []) (pv := []) hW' (fun _ _ _ => (trodAll_cons_mk (shut_bool Try.underlying4 _) trodAll_mk0))
    (fun sp _ => trodAll_stays laidOut (by rw [Try.params8]; exact of_decide_eq_true (by kernel_rfl)) hA2 (fun p hp => by cases hp) (fun p hp => by cases hp)) (fun _ _ => rfl) rfl
    (hg.frame _) hg.2.1 (ok_one (by kernel_rfl) rfl (okWide_bool_mk Try.underlying4 _))⟩

theorem over : Rows.ebbProvedRow.holds Try.pinned (OpenSpec.ofChange Rows.ebbProvedSpec) :=
  OpenClaim.holds_of_wide 8 Try.f8 rfl rfl rfl rfl rfl rfl rfl ⟨rfl, rfl, rfl, rfl, rfl⟩ rfl rfl rfl rfl rfl (by kernel_rfl) Try.func8 (by kernel_rfl)
    (of_decide_eq_true (by kernel_rfl)) (by unfold Func.isWrapper; first | (rw [if_pos (by decide +kernel)]; kernel_rfl) | (rw [if_neg (by decide +kernel)]; exact ⟨rfl, rfl⟩))
    (fun os started H enc _ => lifted os started H enc)

theorem ebbProved : Rows.EbbProvedSaid :=
  over
#print axioms ebbProved
end Go.Proofs.Ytmogipomnjihcaa
