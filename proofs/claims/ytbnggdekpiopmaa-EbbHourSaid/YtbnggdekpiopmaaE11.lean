/- The law EbbHour returns true, whatever its input: a place falls bare at the first hour at which it is among the bare places. No condition. -/
import Derived.Test.YtbnggdekpiopmaaE10
import Derived.Test.YtbnggdekpiopmaaEbF
import Derived.Test.YtbnggdekpiopmaaLift
import Derived.Test.YtbnggdekpiopmaaKnT16
namespace Go.Proofs.Ytbnggdekpiopmaa
open Go.ChangeShapes Go.WideShapes Go.ChangeAt Go.RowKit Go.Abs
set_option linter.unusedVariables false

theorem own : ownKnob Try.prog.godebug = none := by kernel_rfl
theorem laidOut : laidOutB Try.prog = true := by kernel_rfl

theorem works_said (H : Heap) : Said Eb.C.c (.call Eb.C.w [] H) (.val (.bool true) H) := (Said.frame Ev.said16 H : Said Ev.C (.call 16 [] H) (.val (.bool true) H))

theorem walk {a b pl mn : Int} {hs ls : List Int} (hb : Eb.Bytes a b hs) (hpl : 0 ≤ pl ∧ pl ≤ 255) (hmn : 0 ≤ mn ∧ mn ≤ 255) (hll : ls.length = 6) (hlb : ∀ x ∈ ls, 0 ≤ x ∧ x ≤ 255) (w : World) :
    Calls Try.prog 13 #[.agg (Eb.strand a b hs).toArray, .int .u8 pl, .agg (ls.map (Value.int .u8)).toArray, .int .u8 mn] w fun e w' => e = .returned (.bool true) ∧ Grown w w' :=
  calls_of_FS (C := Eb.C) Eb.ok works_said (args := [.agg (Eb.strand a b hs).toArray, .int .u8 pl, .agg (ls.map (Value.int .u8)).toArray, .int .u8 mn]) (by simp [plainV, plain1]) (Eb.EbbHour_fs (hasH.nil noHeap) hb hpl hmn hll hlb) w

set_option maxRecDepth 100000 in
theorem lifted (os : Os) (started : os.Started) (H : Type) (enc : TypeId × Value → H) :
    ReturnsInHanded {} Try.checked os 13 .any (Rows.ebbHourSpec.pre6 enc Try.prog Try.f13 Rows.ebbHourRow.domain false) (Rows.ebbHourSpec.post enc Try.prog Try.f13 false true false false) := by
  refine returnsInHanded_of_change (C := Try.checked) own started (by kernel_rfl) Try.func13
    (ChangeSpec.witness6 (enc := enc) (C := Try.checked) false ⟨#[], #[.agg (List.replicate 38 (Value.int .u8 0)).toArray, .int .u8 0, .agg (List.replicate 6 (Value.int .u8 0)).toArray, .int .u8 0], []⟩ 8 (by kernel_rfl) (by kernel_rfl) (by kernel_rfl) (by kernel_rfl)) ?_
  intro W base args ds gs before hval0 hW hcnd _
  have hval : ∀ (j : Nat) t v, Try.f13.params[j]? = some t → args[j]? = some v → Value.okWide Try.prog W .any base t v := hval0
  have hW' := hW
  obtain ⟨p, q, hA0, hV, rfl, hfz, hnd⟩ := hW
  have hA : DataW.TrodAll enc Try.prog W 0 (fun _ => true) true Try.f13.params.toList args.toList ds p := hA0
  have hA2 := hA
  rw [Try.params13] at hA hval
  obtain ⟨v0, v1, v2, v3, d0, d1, d2, d3, p0, p1, p2, p3, rfl, rfl, rfl, h0, h1, h2, h3⟩ := trodAll_four hA
  obtain ⟨rfl, rfl⟩ := trodVars_none hV
  obtain ⟨a, b, hs, hl, rfl, rfl, ha, hb, hh⟩ := open_two_arr (n := 36) Try.underlying60 ⟨rfl, rfl⟩ ⟨rfl, rfl⟩ ⟨rfl, rfl⟩ Try.underlying5 Try.underlying5 Try.underlying58 Try.underlying5 (by kernel_rfl) (by kernel_rfl) (by kernel_rfl) (by kernel_rfl) (by kernel_rfl) (hval 0 60 v0 rfl rfl) h0
  obtain ⟨pl, rfl, rfl, rfl, wp⟩ := open_int Try.underlying5 (hval 1 5 v1 rfl rfl) h1
  obtain ⟨ls, hll, rfl, rfl, hlw⟩ := open_arrK (n := 6) Try.underlying77 Try.underlying5 (by kernel_rfl) (by kernel_rfl) (hval 2 77 v2 rfl rfl) h2
  obtain ⟨mn, rfl, rfl, rfl, wm⟩ := open_int Try.underlying5 (hval 3 5 v3 rfl rfl) h3
  clear hA0 hval0
  simp only [List.append_nil] at hW' hA2
  refine (walk (a := a) (b := b) (hs := hs) (ls := ls) (pl := pl) (mn := mn) ⟨byte_bd ha, byte_bd hb, hl, fun x hx => byte_bd (hh x hx)⟩ (byte_bd wp) (byte_bd wm) hll (fun x hx => byte_bd (hlw x hx)) W).mono fun e W' ⟨he, hg⟩ => ?_
  subst he
  exact ⟨_, rfl, post_of_same (pa := []) (pv := []) hW' (fun _ _ _ => (trodAll_cons_mk (shut_bool Try.underlying4 _) trodAll_mk0))
    (fun sp _ => trodAll_stays laidOut (by rw [Try.params13]; exact of_decide_eq_true (by kernel_rfl)) hA2 (fun p hp => by cases hp) (fun p hp => by cases hp)) (fun _ _ => rfl) rfl
    (hg.frame _) hg.2.1 (ok_one (by kernel_rfl) rfl (okWide_bool_mk Try.underlying4 _))⟩

theorem over : Rows.ebbHourRow.holds Try.pinned (OpenSpec.ofChange Rows.ebbHourSpec) :=
  OpenClaim.holds_of_wide 13 Try.f13 rfl rfl rfl rfl rfl rfl rfl ⟨rfl, rfl, rfl, rfl, rfl⟩ rfl rfl rfl rfl rfl (by kernel_rfl) Try.func13 (by kernel_rfl)
    (of_decide_eq_true (by kernel_rfl)) (by unfold Func.isWrapper; first | (rw [if_pos (by decide +kernel)]; kernel_rfl) | (rw [if_neg (by decide +kernel)]; exact ⟨rfl, rfl⟩))
    (fun os started H enc _ => lifted os started H enc)

theorem ebbHour : Rows.EbbHourSaid :=
  over
#print axioms ebbHour
end Go.Proofs.Ytbnggdekpiopmaa
