/- The law WalkPlans returns true, whatever its input: a plan meets all just if it does in so many tides anywhere, around its end, too; so does the plan begun elsewhere, read backwards, or with greater numbers. No condition. -/
import Derived.Test.YtnmlfjohoeebiaaJ3
import Derived.Test.YtnmlfjohoeebiaaWkF
import Derived.Test.YtnmlfjohoeebiaaLiftF
import Derived.Test.YtnmlfjohoeebiaaKnT16
namespace Go.Proofs.Ytnmlfjohoeebiaa
open Go.ChangeShapes Go.WideShapes Go.ChangeAt Go.RowKit Go.Abs
set_option linter.unusedVariables false

theorem own : ownKnob Try.prog.godebug = none := by kernel_rfl
theorem laidOut : laidOutB Try.prog = true := by kernel_rfl
theorem works_said (H : Heap) : Said Wk.C.c (.call Wk.C.w [] H) (.val (.bool true) H) := (Said.frame Ev.said16 H : Said Ev.C (.call 16 [] H) (.val (.bool true) H))

theorem walk {a b c : Int} {hs : List Int} (ha : 0 ≤ a ∧ a ≤ 255) (hb : 0 ≤ b ∧ b ≤ 255) (hc : 0 ≤ c ∧ c ≤ 255) (hl : hs.length = 2) (hu : ∀ x ∈ hs, 0 ≤ x ∧ x ≤ 255) {x1 : Int} (hx1 : 0 ≤ x1 ∧ x1 ≤ 255) {x2 : List Int} (hl2 : x2.length = 12) (hx2 : ∀ z ∈ x2, 0 ≤ z ∧ z ≤ 255) {x3 : Int} (hx3 : 0 ≤ x3 ∧ x3 ≤ 255) {x4 : Int} (hx4 : 0 ≤ x4 ∧ x4 ≤ 255) (w : World) :
    Calls Try.prog 12 #[.agg (Wk.trayV a b c hs).toArray, .int .u8 x1, .agg (x2.map (Value.int .u8)).toArray, .int .u8 x3, .int .u8 x4] w fun e w' => e = .returned (.bool true) ∧ Grown w w' :=
  calls_of_FS (C := Wk.C) Wk.ok works_said (args := [.agg (Wk.trayV a b c hs).toArray, .int .u8 x1, .agg (x2.map (Value.int .u8)).toArray, .int .u8 x3, .int .u8 x4]) (by simp [plainV, plain1, List.all_map, Wk.trayV]) (Wk.WalkPlans_fs (hasH.nil noHeap) ha hb hc hl hu hx1 hl2 hx2 hx3 hx4) w

set_option maxRecDepth 100000 in
theorem lifted (os : Os) (started : os.Started) (H : Type) (enc : TypeId × Value → H) :
    ReturnsInHanded {} Try.checked os 12 .any (Rows.walkPlansSpec.pre6 enc Try.prog Try.f12 Rows.walkPlansRow.domain false) (Rows.walkPlansSpec.post enc Try.prog Try.f12 false true false false) := by
  refine returnsInHanded_of_change (C := Try.checked) own started (by kernel_rfl) Try.func12
    (ChangeSpec.witness6 (enc := enc) (C := Try.checked) false ⟨#[], #[.agg (List.replicate 5 (Value.int .u8 0)).toArray, .int .u8 0, .agg (List.replicate 12 (Value.int .u8 0)).toArray, .int .u8 0, .int .u8 0], []⟩ 8 (by kernel_rfl) (by kernel_rfl) (by kernel_rfl) (by kernel_rfl)) ?_
  intro W base args ds gs before hval0 hW hcnd _
  have hval : ∀ (j : Nat) t v, Try.f12.params[j]? = some t → args[j]? = some v → Value.okWide Try.prog W .any base t v := hval0
  have hW' := hW
  obtain ⟨p, q, hA0, hV, rfl, hfz, hnd⟩ := hW
  have hA : DataW.TrodAll enc Try.prog W 0 (fun _ => true) true Try.f12.params.toList args.toList ds p := hA0
  have hA2 := hA
  rw [Try.params12] at hA hval
  obtain ⟨v0, l0, d0, e0, p0, q0, hl0, rfl, rfl, h0, h⟩ := trodAll_cons hA
  obtain ⟨v1, l1, d1, e1, p1, q1, rfl, rfl, rfl, h1, h⟩ := trodAll_cons h
  obtain ⟨v2, l2, d2, e2, p2, q2, rfl, rfl, rfl, h2, h⟩ := trodAll_cons h
  obtain ⟨v3, l3, d3, e3, p3, q3, rfl, rfl, rfl, h3, h⟩ := trodAll_cons h
  obtain ⟨v4, l4, d4, e4, p4, q4, rfl, rfl, rfl, h4, h⟩ := trodAll_cons h
  obtain ⟨rfl, rfl, rfl⟩ := trodAll_nil h
  obtain rfl : args = #[v0, v1, v2, v3, v4] := by cases args; simp_all
  obtain ⟨rfl, rfl⟩ := trodVars_none hV
  obtain ⟨xs, hxl, rfl, rfl, hxw⟩ := open_flat Try.underlying45 (.cons (.int Try.underlying5 (by kernel_rfl)) rfl (.cons (.arr Try.underlying43 Try.underlying5 (by kernel_rfl) (by kernel_rfl)) rfl (.nil _))) (by kernel_rfl) (hval 0 45 v0 rfl rfl) h0
  obtain ⟨a, b, c, hs, rfl⟩ : ∃ a b c hs, xs = a :: b :: c :: hs := list_three (by omega)
  have hlen : hs.length = 2 := by simpa using hxl
  have hby : ∀ x ∈ a :: b :: c :: hs, 0 ≤ x ∧ x ≤ 255 := fun x hx => byte_bd (hxw x hx)
  obtain ⟨x1, rfl, rfl, rfl, w1⟩ := open_int Try.underlying5 (hval 1 5 v1 rfl rfl) h1
  obtain ⟨x2, hl2, rfl, rfl, w2⟩ := open_arrK Try.underlying56 Try.underlying5 (by kernel_rfl) (by kernel_rfl) (hval 2 56 v2 rfl rfl) h2
  obtain ⟨x3, rfl, rfl, rfl, w3⟩ := open_int Try.underlying5 (hval 3 5 v3 rfl rfl) h3
  obtain ⟨x4, rfl, rfl, rfl, w4⟩ := open_int Try.underlying5 (hval 4 5 v4 rfl rfl) h4
  clear hA0 hval0
  simp only [List.append_nil] at hW' hA2
  refine (walk (a := a) (b := b) (c := c) (hs := hs) (x1 := x1) (x2 := x2) (x3 := x3) (x4 := x4) (hby a (by simp)) (hby b (by simp)) (hby c (by simp)) hlen (fun x hx => hby x (by simp [hx])) (byte_bd w1) hl2 (fun z hz => byte_bd (w2 z hz)) (byte_bd w3) (byte_bd w4) W).mono fun e W' ⟨he, hg⟩ => ?_
  subst he
  exact ⟨_, rfl, post_of_same (pa := []) (pv := []) hW' (fun _ _ _ => (trodAll_cons_mk (shut_bool Try.underlying4 _) trodAll_mk0))
    (fun sp _ => trodAll_stays laidOut (by rw [Try.params12]; exact of_decide_eq_true (by kernel_rfl)) hA2 (fun p hp => by cases hp) (fun p hp => by cases hp)) (fun _ _ => rfl) rfl
    (hg.frame _) hg.2.1 (ok_one (by kernel_rfl) rfl (okWide_bool_mk Try.underlying4 _))⟩

theorem over : Rows.walkPlansRow.holds Try.pinned (OpenSpec.ofChange Rows.walkPlansSpec) :=
  OpenClaim.holds_of_wide 12 Try.f12 rfl rfl rfl rfl rfl rfl rfl ⟨rfl, rfl, rfl, rfl, rfl⟩ rfl rfl rfl rfl rfl (by kernel_rfl) Try.func12 (by kernel_rfl)
    (of_decide_eq_true (by kernel_rfl)) (by unfold Func.isWrapper; first | (rw [if_pos (by decide +kernel)]; kernel_rfl) | (rw [if_neg (by decide +kernel)]; exact ⟨rfl, rfl⟩))
    (fun os started H enc _ => lifted os started H enc)

theorem walkPlans : Rows.WalkPlansSaid :=
  over
#print axioms walkPlans
end Go.Proofs.Ytnmlfjohoeebiaa
