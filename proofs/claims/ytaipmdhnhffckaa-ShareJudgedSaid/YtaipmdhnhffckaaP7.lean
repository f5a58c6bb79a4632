/- The law ShareJudged returns true, whatever its input: The law ShareJudged returns true, whatever its input: what shares are worth, who envies whom and by how much, whether a division is fair and why it is not, and the proof of it all agree with each other. No condition. No condition. -/
import Derived.Test.YtaipmdhnhffckaaJ4
import Derived.Test.YtaipmdhnhffckaaShF
import Derived.Test.YtaipmdhnhffckaaLiftF
import Derived.Test.YtaipmdhnhffckaaKnT18
namespace Go.Proofs.Ytaipmdhnhffckaa
open Go.ChangeShapes Go.WideShapes Go.ChangeAt Go.RowKit Go.Abs
set_option linter.unusedVariables false

theorem own : ownKnob Try.prog.godebug = none := by kernel_rfl
theorem laidOut : laidOutB Try.prog = true := by kernel_rfl
theorem works_said (H : Heap) : Said Sh.C.c (.call Sh.C.w [] H) (.val (.bool true) H) := (Said.frame Ev.said18 H : Said Ev.C (.call 18 [] H) (.val (.bool true) H))

theorem walk {a b : Int} {hs : List Int} (ha : 0 ≤ a ∧ a ≤ 255) (hb : 0 ≤ b ∧ b ≤ 255) (hl : hs.length = 24) (hu : ∀ x ∈ hs, 0 ≤ x ∧ x ≤ 255) {x1 : List Int} (hl1 : x1.length = 6) (hx1 : ∀ z ∈ x1, 0 ≤ z ∧ z ≤ 255) (w : World) :
    Calls Try.prog 11 #[.agg (Sh.heapV a b hs).toArray, .agg (x1.map (Value.int .u8)).toArray] w fun e w' => e = .returned (.bool true) ∧ Grown w w' :=
  calls_of_FS (C := Sh.C) Sh.ok works_said (args := [.agg (Sh.heapV a b hs).toArray, .agg (x1.map (Value.int .u8)).toArray]) (by simp [plainV, plain1, List.all_map, Sh.heapV]) (Sh.ShareJudged_fs (hasH.nil noHeap) ha hb hl hu hl1 hx1) w

set_option maxRecDepth 100000 in
theorem lifted (os : Os) (started : os.Started) (H : Type) (enc : TypeId × Value → H) :
    ReturnsInHanded {} Try.checked os 11 .any (Rows.shareJudgedSpec.pre6 enc Try.prog Try.f11 Rows.shareJudgedRow.domain false) (Rows.shareJudgedSpec.post enc Try.prog Try.f11 false true false false) := by
  refine returnsInHanded_of_change (C := Try.checked) own started (by kernel_rfl) Try.func11
    (ChangeSpec.witness6 (enc := enc) (C := Try.checked) false ⟨#[], #[.agg (List.replicate 26 (Value.int .u8 0)).toArray, .agg (List.replicate 6 (Value.int .u8 0)).toArray], []⟩ 8 (by kernel_rfl) (by kernel_rfl) (by kernel_rfl) (by kernel_rfl)) ?_
  intro W base args ds gs before hval0 hW hcnd _
  have hval : ∀ (j : Nat) t v, Try.f11.params[j]? = some t → args[j]? = some v → Value.okWide Try.prog W .any base t v := hval0
  have hW' := hW
  obtain ⟨p, q, hA0, hV, rfl, hfz, hnd⟩ := hW
  have hA : DataW.TrodAll enc Try.prog W 0 (fun _ => true) true Try.f11.params.toList args.toList ds p := hA0
  have hA2 := hA
  rw [Try.params11] at hA hval
  obtain ⟨v0, l0, d0, e0, p0, q0, hl0, rfl, rfl, h0, h⟩ := trodAll_cons hA
  obtain ⟨v1, l1, d1, e1, p1, q1, rfl, rfl, rfl, h1, h⟩ := trodAll_cons h
  obtain ⟨rfl, rfl, rfl⟩ := trodAll_nil h
  obtain rfl : args = #[v0, v1] := by cases args; simp_all
  obtain ⟨rfl, rfl⟩ := trodVars_none hV
  obtain ⟨xs, hxl, rfl, rfl, hxw⟩ := open_flat Try.underlying49 (.cons (.int Try.underlying5 (by kernel_rfl)) rfl (.cons (.int Try.underlying5 (by kernel_rfl)) rfl (.cons (.nest Try.underlying47 (.arr Try.underlying46 Try.underlying5 (by kernel_rfl) (by kernel_rfl)) rfl (by kernel_rfl)) rfl (.nil _)))) (by kernel_rfl) (hval 0 49 v0 rfl rfl) h0
  obtain ⟨a, b, hs, rfl⟩ : ∃ a b hs, xs = a :: b :: hs := list_two (by omega)
  have hlen : hs.length = 24 := by simpa using hxl
  have hby : ∀ x ∈ a :: b :: hs, 0 ≤ x ∧ x ≤ 255 := fun x hx => byte_bd (hxw x hx)
  obtain ⟨x1, hl1, rfl, rfl, w1⟩ := open_arrK Try.underlying46 Try.underlying5 (by kernel_rfl) (by kernel_rfl) (hval 1 46 v1 rfl rfl) h1
  clear hA0 hval0
  simp only [List.append_nil] at hW' hA2
  refine (walk (a := a) (b := b) (hs := hs) (x1 := x1) (hby a (by simp)) (hby b (by simp)) hlen (fun x hx => hby x (by simp [hx])) hl1 (fun z hz => byte_bd (w1 z hz)) W).mono fun e W' ⟨he, hg⟩ => ?_
  subst he
  exact ⟨_, rfl, post_of_same (pa := []) (pv := []) hW' (fun _ _ _ => (trodAll_cons_mk (shut_bool Try.underlying4 _) trodAll_mk0))
    (fun sp _ => trodAll_stays laidOut (by rw [Try.params11]; exact of_decide_eq_true (by kernel_rfl)) hA2 (fun p hp => by cases hp) (fun p hp => by cases hp)) (fun _ _ => rfl) rfl
    (hg.frame _) hg.2.1 (ok_one (by kernel_rfl) rfl (okWide_bool_mk Try.underlying4 _))⟩

theorem over : Rows.shareJudgedRow.holds Try.pinned (OpenSpec.ofChange Rows.shareJudgedSpec) :=
  OpenClaim.holds_of_wide 11 Try.f11 rfl rfl rfl rfl rfl rfl rfl ⟨rfl, rfl, rfl, rfl, rfl⟩ rfl rfl rfl rfl rfl (by kernel_rfl) Try.func11 (by kernel_rfl)
    (of_decide_eq_true (by kernel_rfl)) (by unfold Func.isWrapper; first | (rw [if_pos (by decide +kernel)]; kernel_rfl) | (rw [if_neg (by decide +kernel)]; exact ⟨rfl, rfl⟩))
    (fun os started H enc _ => lifted os started H enc)

theorem shareJudged : Rows.ShareJudgedSaid :=
  over
#print axioms shareJudged
end Go.Proofs.Ytaipmdhnhffckaa
