/- The law WalkGrouped returns true, whatever its input: as few inspectors as possible divide the stretches, and this is the first such list: all are tried. No condition. -/
import Derived.Test.YtnmlfjohoeebiaaJ4
import Derived.Test.YtnmlfjohoeebiaaWkF
import Derived.Test.YtnmlfjohoeebiaaLiftF
import Derived.Test.YtnmlfjohoeebiaaKnT16
namespace Go.Proofs.Ytnmlfjohoeebiaa
open Go.ChangeShapes Go.WideShapes Go.ChangeAt Go.RowKit Go.Abs
set_option linter.unusedVariables false

theorem own : ownKnob Try.prog.godebug = none := by kernel_rfl
theorem laidOut : laidOutB Try.prog = true := by kernel_rfl
theorem works_said (H : Heap) : Said Wk.C.c (.call Wk.C.w [] H) (.val (.bool true) H) := (Said.frame Ev.said16 H : Said Ev.C (.call 16 [] H) (.val (.bool true) H))

theorem walk {a b c : Int} {hs : List Int} (ha : 0 ≤ a ∧ a ≤ 255) (hb : 0 ≤ b ∧ b ≤ 255) (hc : 0 ≤ c ∧ c ≤ 255) (hl : hs.length = 2) (hu : ∀ x ∈ hs, 0 ≤ x ∧ x ≤ 255) (w : World) :
    Calls Try.prog 13 #[.agg (Wk.trayV a b c hs).toArray] w fun e w' => e = .returned (.bool true) ∧ Grown w w' :=
  calls_of_FS (C := Wk.C) Wk.ok works_said (args := [.agg (Wk.trayV a b c hs).toArray]) (by simp [plainV, plain1, List.all_map, Wk.trayV]) (Wk.WalkGrouped_fs (hasH.nil noHeap) ha hb hc hl hu) w

set_option maxRecDepth 100000 in
theorem lifted (os : Os) (started : os.Started) (H : Type) (enc : TypeId × Value → H) :
    ReturnsInHanded {} Try.checked os 13 .any (Rows.walkGroupedSpec.pre6 enc Try.prog Try.f13 Rows.walkGroupedRow.domain false) (Rows.walkGroupedSpec.post enc Try.prog Try.f13 false true false false) := by
  refine returnsInHanded_of_change (C := Try.checked) own started (by kernel_rfl) Try.func13
    (ChangeSpec.witness6 (enc := enc) (C := Try.checked) false ⟨#[], #[.agg (List.replicate 5 (Value.int .u8 0)).toArray], []⟩ 8 (by kernel_rfl) (by kernel_rfl) (by kernel_rfl) (by kernel_rfl)) ?_
  intro W base args ds gs before hval0 hW hcnd _
  have hval : ∀ (j : Nat) t v, Try.f13.params[j]? = some t → args[j]? = some v → Value.okWide Try.prog W .any base t v := hval0
  have hW' := hW
  obtain ⟨p, q, hA0, hV, rfl, hfz, hnd⟩ := hW
  have hA : DataW.TrodAll enc Try.prog W 0 (fun _ => true) true Try.f13.params.toList args.toList ds p := hA0
  have hA2 := hA
  rw [Try.params13] at hA hval
  obtain ⟨v0, l0, d0, e0, p0, q0, hl0, rfl, rfl, h0, h⟩ := trodAll_cons hA
  obtain ⟨rfl, rfl, rfl⟩ := trodAll_nil h
  obtain rfl : args = #[v0] := by cases args; simp_all
  obtain ⟨rfl, rfl⟩ := trodVars_none hV
  obtain ⟨xs, hxl, rfl, rfl, hxw⟩ := open_flat Try.underlying45 (.cons (.int Try.underlying5 (by kernel_rfl)) rfl (.cons (.arr Try.underlying43 Try.underlying5 (by kernel_rfl) (by kernel_rfl)) rfl (.nil _))) (by kernel_rfl) (hval 0 45 v0 rfl rfl) h0
  obtain ⟨a, b, c, hs, rfl⟩ : ∃ a b c hs, xs = a :: b :: c :: hs := list_three (by omega)
  have hlen : hs.length = 2 := by simpa using hxl
  have hby : ∀ x ∈ a :: b :: c :: hs, 0 ≤ x ∧ x ≤ 255 := fun x hx => byte_bd (hxw x hx)
  clear hA0 hval0
  simp only [List.append_nil] at hW' hA2
  refine (walk (a := a) (b := b) (c := c) (hs := hs) (hby a (by simp)) (hby b (by simp)) (hby c (by simp)) hlen (fun x hx => hby x (by simp [hx])) W).mono fun e W' ⟨he, hg⟩ => ?_
  subst he
  exact ⟨_, rfl, post_of_same (pa := []) (pv := []) hW' (fun _ _ _ => (trodAll_cons_mk (shut_bool Try.underlying4 _) trodAll_mk0))
    (fun sp _ => trodAll_stays laidOut (by rw [Try.params13]; exact of_decide_eq_true (by kernel_rfl)) hA2 (fun p hp => by cases hp) (fun p hp => by cases hp)) (fun _ _ => rfl) rfl
    (hg.frame _) hg.2.1 (ok_one (by kernel_rfl) rfl (okWide_bool_mk Try.underlying4 _))⟩

theorem over : Rows.walkGroupedRow.holds Try.pinned (OpenSpec.ofChange Rows.walkGroupedSpec) :=
  OpenClaim.holds_of_wide 13 Try.f13 rfl rfl rfl rfl rfl rfl rfl ⟨rfl, rfl, rfl, rfl, rfl⟩ rfl rfl rfl rfl rfl (by kernel_rfl) Try.func13 (by kernel_rfl)
    (of_decide_eq_true (by kernel_rfl)) (by unfold Func.isWrapper; first | (rw [if_pos (by decide +kernel)]; kernel_rfl) | (rw [if_neg (by decide +kernel)]; exact ⟨rfl, rfl⟩))
    (fun os started H enc _ => lifted os started H enc)

theorem walkGrouped : Rows.WalkGroupedSaid :=
  over
#print axioms walkGrouped
end Go.Proofs.Ytnmlfjohoeebiaa
