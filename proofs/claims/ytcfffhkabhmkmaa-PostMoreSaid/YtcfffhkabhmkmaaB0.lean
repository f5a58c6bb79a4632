/- The law PostMore returns true, whatever its input: with a place more the fewest posts are as many, or one more, and as many places are apart; with one price smaller by 1 the cheapest posts cost as much, or 1 less (a shore of at most 9 places, and prices, by numbers). No condition. -/
import Derived.Test.YtcfffhkabhmkmaaJ4
import Derived.Test.YtcfffhkabhmkmaaPsF
import Derived.Test.YtcfffhkabhmkmaaJ5
import Derived.Test.YtcfffhkabhmkmaaKnT8
namespace Go.Proofs.Ytcfffhkabhmkmaa
open Go.ChangeShapes Go.WideShapes Go.ChangeAt Go.RowKit Go.Abs
set_option linter.unusedVariables false

theorem own : ownKnob Try.prog.godebug = none := by kernel_rfl
theorem laidOut : laidOutB Try.prog = true := by kernel_rfl
theorem works_said (H : Heap) : Said Ps.C.c (.call Ps.C.w [] H) (.val (.bool true) H) := (Said.frame Ev.said8 H : Said Ev.C (.call 8 [] H) (.val (.bool true) H))

theorem nat_list {k : IntKind} {xs : List Int} {b : Nat} (h : ∀ x ∈ xs, 0 ≤ x ∧ x ≤ (b : Int)) : ∃ l : List Nat, l.length = xs.length ∧ (∀ x ∈ l, x ≤ b) ∧ xs.map (Value.int k) = numsK k l := by
  refine ⟨xs.map Int.toNat, by simp, fun x hx => ?_, ?_⟩
  · obtain ⟨y, hy, rfl⟩ := List.mem_map.1 hx
    have := h y hy
    omega
  · unfold numsK
    rw [List.map_map]
    refine List.map_congr_left fun y hy => ?_
    have := (h y hy).1
    show Value.int k y = Value.int k ((y.toNat : Nat) : Int)
    rw [Int.toNat_of_nonneg this]

theorem walk {x0 : List Nat} (hl0 : x0.length = 11) (hx0 : ∀ x ∈ x0, x ≤ 255) {x1 : Nat} (hx1 : x1 ≤ 255) {x2 : List Nat} (hl2 : x2.length = 10) (hx2 : ∀ x ∈ x2, x ≤ 255) (w : World) :
    Calls Try.prog 6 #[.agg (numsK .u8 x0).toArray, .int .u8 (x1 : Int), .agg (numsK .u8 x2).toArray] w fun e w' => e = .returned (.bool true) ∧ Grown w w' :=
  calls_of_FS (C := Ps.C) Ps.ok works_said (args := [.agg (numsK .u8 x0).toArray, .int .u8 (x1 : Int), .agg (numsK .u8 x2).toArray]) (by simp [plainV, plain1, List.all_map]) (Ps.PostMore_fs (hasH.nil noHeap) hl0 hx0 hx1 hl2 hx2) w

set_option maxRecDepth 100000 in
set_option maxHeartbeats 4000000 in
theorem lifted (os : Os) (started : os.Started) (H : Type) (enc : TypeId × Value → H) :
    ReturnsInHanded {} Try.checked os 6 .any (Rows.postMoreSpec.pre6 enc Try.prog Try.f6 Rows.postMoreRow.domain false) (Rows.postMoreSpec.post enc Try.prog Try.f6 false true false false) := by
  refine returnsInHanded_of_change (C := Try.checked) own started (by kernel_rfl) Try.func6
    (ChangeSpec.witness6 (enc := enc) (C := Try.checked) false ⟨#[], #[.agg (List.replicate 11 (Value.int .u8 0)).toArray, .int .u8 0, .agg (List.replicate 10 (Value.int .u8 0)).toArray], []⟩ 8 (by kernel_rfl) (by kernel_rfl) (by kernel_rfl) (by kernel_rfl)) ?_
  intro W base args ds gs before hval0 hW hcnd _
  have hval : ∀ (j : Nat) t v, Try.f6.params[j]? = some t → args[j]? = some v → Value.okWide Try.prog W .any base t v := hval0
  have hW' := hW
  obtain ⟨p, q, hA0, hV, rfl, hfz, hnd⟩ := hW
  have hA : DataW.TrodAll enc Try.prog W 0 (fun _ => true) true Try.f6.params.toList args.toList ds p := hA0
  have hA2 := hA
  rw [Try.params6] at hA hval
  obtain ⟨v0, l0, d0, e0, p0, q0, hl0, rfl, rfl, h0, h⟩ := trodAll_cons hA
  obtain ⟨v1, l1, d1, e1, p1, q1, rfl, rfl, rfl, h1, h⟩ := trodAll_cons h
  obtain ⟨v2, l2, d2, e2, p2, q2, rfl, rfl, rfl, h2, h⟩ := trodAll_cons h
  obtain ⟨rfl, rfl, rfl⟩ := trodAll_nil h
  obtain rfl : args = #[v0, v1, v2] := by cases args; simp_all
  obtain ⟨rfl, rfl⟩ := trodVars_none hV
  clear hl0
  obtain ⟨xs0, hxl0, rfl, rfl, hxw0⟩ := open_flat Try.underlying38 (.cons (.int Try.underlying5 (by kernel_rfl)) rfl (.cons (.arr Try.underlying36 Try.underlying5 (by kernel_rfl) (by kernel_rfl)) rfl (.nil _))) (by kernel_rfl) (hval 0 38 v0 rfl rfl) h0
  obtain ⟨x0, hl0, hx0, hn0⟩ := nat_list (k := .u8) (xs := xs0) (b := 255) (fun x hx => byte_bd (hxw0 x hx))
  obtain ⟨y1, rfl, rfl, rfl, hw1⟩ := open_int Try.underlying5 (hval 1 5 v1 rfl rfl) h1
  obtain ⟨x1, rfl⟩ : ∃ n : Nat, y1 = n := ⟨y1.toNat, by have := byte_bd hw1; omega⟩
  have hx1 : x1 ≤ 255 := by have := byte_bd hw1; omega
  obtain ⟨xs2, hxl2, rfl, rfl, hxw2⟩ := open_arrK Try.underlying36 Try.underlying5 (by kernel_rfl) (by kernel_rfl) (hval 2 36 v2 rfl rfl) h2
  obtain ⟨x2, hl2, hx2, hn2⟩ := nat_list (k := .u8) (xs := xs2) (b := 255) (fun x hx => byte_bd (hxw2 x hx))
  clear hA0 hval0
  simp only [List.append_nil] at hW' hA2
  have hwk := walk (hl0.trans hxl0) hx0 hx1 (hl2.trans hxl2) hx2 W
  rw [← hn0, ← hn2] at hwk
  refine hwk.mono fun e W' ⟨he, hg⟩ => ?_
  subst he
  exact ⟨_, rfl, post_of_same (pa := []) (pv := []) hW' (fun _ _ _ => (trodAll_cons_mk (shut_bool Try.underlying4 _) trodAll_mk0))
    (fun sp _ => trodAll_stays laidOut (by rw [Try.params6]; exact of_decide_eq_true (by kernel_rfl)) hA2 (fun p hp => by cases hp) (fun p hp => by cases hp)) (fun _ _ => rfl) rfl
    (hg.frame _) hg.2.1 (ok_one (by kernel_rfl) rfl (okWide_bool_mk Try.underlying4 _))⟩

theorem over : Rows.postMoreRow.holds Try.pinned (OpenSpec.ofChange Rows.postMoreSpec) :=
  OpenClaim.holds_of_wide 6 Try.f6 rfl rfl rfl rfl rfl rfl rfl ⟨rfl, rfl, rfl, rfl, rfl⟩ rfl rfl rfl rfl rfl (by kernel_rfl) Try.func6 (by kernel_rfl)
    (of_decide_eq_true (by kernel_rfl)) (by unfold Func.isWrapper; first | (rw [if_pos (by decide +kernel)]; kernel_rfl) | (rw [if_neg (by decide +kernel)]; exact ⟨rfl, rfl⟩))
    (fun os started H enc _ => lifted os started H enc)

theorem postMore : Rows.PostMoreSaid :=
  over
#print axioms postMore
end Go.Proofs.Ytcfffhkabhmkmaa
