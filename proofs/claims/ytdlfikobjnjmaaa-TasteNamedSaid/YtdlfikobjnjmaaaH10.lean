/- The law TasteNamed returns true, whatever its input: with other numbers of the goods all stays; sales in another order are of one taste as before, and as many are wrong; prices twice as high show the same (at most 6 sales by numbers). No condition. -/
import Derived.Test.YtdlfikobjnjmaaaJ5
import Derived.Test.YtdlfikobjnjmaaaTtF
import Derived.Test.YtdlfikobjnjmaaaJ6
import Derived.Test.YtdlfikobjnjmaaaKnT15
namespace Go.Proofs.Ytdlfikobjnjmaaa
open Go.ChangeShapes Go.WideShapes Go.ChangeAt Go.RowKit Go.Abs
set_option linter.unusedVariables false

theorem own : ownKnob Try.prog.godebug = none := by kernel_rfl
theorem laidOut : laidOutB Try.prog = true := by kernel_rfl
theorem works_said (H : Heap) : Said Tt.C.c (.call Tt.C.w [] H) (.val (.bool true) H) := (Said.frame Ev.said15 H : Said Ev.C (.call 15 [] H) (.val (.bool true) H))

theorem nat_list {k : IntKind} {xs : List Int} {b : Nat} (h : ∀ x ∈ xs, 0 ≤ x ∧ x ≤ (b : Int)) : ∃ l : List Nat, l.length = xs.length ∧ (∀ x ∈ l, x ≤ b) ∧ xs.map (Value.int k) = numsK k l := by
  refine ⟨xs.map Int.toNat, by simp, fun x hx => ?_, ?_⟩
  · obtain ⟨y, hy, rfl⟩ := List.mem_map.1 hx
    have := h y hy
    omega
  · unfold numsK
    rw [List.map_map]
    refine List.map_congr_left fun y hy => ?_
    have := (h y hy).1
    show Value.int k y = Value.int k ((y.toNat : Nat) : Int)
    rw [Int.toNat_of_nonneg this]
theorem word_bd {y : Int} (h : (Lit.int .u16 y).wf = true) : 0 ≤ y ∧ y < 65536 := by
  simp [Lit.wf, IntKind.min, IntKind.max, IntKind.signed, IntKind.bits] at h
  omega

theorem walk {x0 : List Nat} (hl0 : x0.length = 39) (hx0 : ∀ x ∈ x0, x ≤ 255) {x1 : Nat} (hx1 : x1 ≤ 255) {x2 : Nat} (hx2 : x2 ≤ 255) (w : World) :
    Calls Try.prog 3 #[.agg (numsK .u8 x0).toArray, .int .u8 (x1 : Int), .int .u8 (x2 : Int)] w fun e w' => e = .returned (.bool true) ∧ Grown w w' :=
  calls_of_FS (C := Tt.C) Tt.ok works_said (args := [.agg (numsK .u8 x0).toArray, .int .u8 (x1 : Int), .int .u8 (x2 : Int)]) (by simp [plainV, plain1, List.all_map]) (Tt.TasteNamed_fs (hasH.nil noHeap) hl0 hx0 hx1 hx2) w

set_option maxRecDepth 100000 in
set_option maxHeartbeats 4000000 in
theorem lifted (os : Os) (started : os.Started) (H : Type) (enc : TypeId × Value → H) :
    ReturnsInHanded {} Try.checked os 3 .any (Rows.tasteNamedSpec.pre6 enc Try.prog Try.f3 Rows.tasteNamedRow.domain false) (Rows.tasteNamedSpec.post enc Try.prog Try.f3 false true false false) := by
  refine returnsInHanded_of_change (C := Try.checked) own started (by kernel_rfl) Try.func3
    (ChangeSpec.witness6 (enc := enc) (C := Try.checked) false ⟨#[], #[.agg (List.replicate 39 (Value.int .u8 0)).toArray, .int .u8 0, .int .u8 0], []⟩ 8 (by kernel_rfl) (by kernel_rfl) (by kernel_rfl) (by kernel_rfl)) ?_
  intro W base args ds gs before hval0 hW hcnd _
  have hval : ∀ (j : Nat) t v, Try.f3.params[j]? = some t → args[j]? = some v → Value.okWide Try.prog W .any base t v := hval0
  have hW' := hW
  obtain ⟨p, q, hA0, hV, rfl, hfz, hnd⟩ := hW
  have hA : DataW.TrodAll enc Try.prog W 0 (fun _ => true) true Try.f3.params.toList args.toList ds p := hA0
  have hA2 := hA
  rw [Try.params3] at hA hval
  obtain ⟨v0, l0, d0, e0, p0, q0, hl0, rfl, rfl, h0, h⟩ := trodAll_cons hA
  obtain ⟨v1, l1, d1, e1, p1, q1, rfl, rfl, rfl, h1, h⟩ := trodAll_cons h
  obtain ⟨v2, l2, d2, e2, p2, q2, rfl, rfl, rfl, h2, h⟩ := trodAll_cons h
  obtain ⟨rfl, rfl, rfl⟩ := trodAll_nil h
  obtain rfl : args = #[v0, v1, v2] := by cases args; simp_all
  obtain ⟨rfl, rfl⟩ := trodVars_none hV
  clear hl0
  obtain ⟨xs0, hxl0, rfl, rfl, hxw0⟩ := open_flat Try.underlying25 (.cons (.int Try.underlying5 (by kernel_rfl)) rfl (.cons (.int Try.underlying5 (by kernel_rfl)) rfl (.cons (.int Try.underlying5 (by kernel_rfl)) rfl (.cons (.nest Try.underlying23 (.arr Try.underlying22 Try.underlying5 (by kernel_rfl) (by kernel_rfl)) rfl (by kernel_rfl)) rfl (.cons (.nest Try.underlying23 (.arr Try.underlying22 Try.underlying5 (by kernel_rfl) (by kernel_rfl)) rfl (by kernel_rfl)) rfl (.nil _)))))) (by kernel_rfl) (hval 0 25 v0 rfl rfl) h0
  obtain ⟨x0, hl0, hx0, hn0⟩ := nat_list (k := .u8) (xs := xs0) (b := 255) (fun x hx => byte_bd (hxw0 x hx))
  obtain ⟨y1, rfl, rfl, rfl, hw1⟩ := open_int Try.underlying5 (hval 1 5 v1 rfl rfl) h1
  obtain ⟨x1, rfl⟩ : ∃ n : Nat, y1 = n := ⟨y1.toNat, by have := byte_bd hw1; omega⟩
  have hx1 : x1 ≤ 255 := by have := byte_bd hw1; omega
  obtain ⟨y2, rfl, rfl, rfl, hw2⟩ := open_int Try.underlying5 (hval 2 5 v2 rfl rfl) h2
  obtain ⟨x2, rfl⟩ : ∃ n : Nat, y2 = n := ⟨y2.toNat, by have := byte_bd hw2; omega⟩
  have hx2 : x2 ≤ 255 := by have := byte_bd hw2; omega
  clear hA0 hval0
  simp only [List.append_nil] at hW' hA2
  have hwk := walk (hl0.trans hxl0) hx0 hx1 hx2 W
  rw [← hn0] at hwk
  refine hwk.mono fun e W' ⟨he, hg⟩ => ?_
  subst he
  exact ⟨_, rfl, post_of_same (pa := []) (pv := []) hW' (fun _ _ _ => (trodAll_cons_mk (shut_bool Try.underlying4 _) trodAll_mk0))
    (fun sp _ => trodAll_stays laidOut (by rw [Try.params3]; exact of_decide_eq_true (by kernel_rfl)) hA2 (fun p hp => by cases hp) (fun p hp => by cases hp)) (fun _ _ => rfl) rfl
    (hg.frame _) hg.2.1 (ok_one (by kernel_rfl) rfl (okWide_bool_mk Try.underlying4 _))⟩

theorem over : Rows.tasteNamedRow.holds Try.pinned (OpenSpec.ofChange Rows.tasteNamedSpec) :=
  OpenClaim.holds_of_wide 3 Try.f3 rfl rfl rfl rfl rfl rfl rfl ⟨rfl, rfl, rfl, rfl, rfl⟩ rfl rfl rfl rfl rfl (by kernel_rfl) Try.func3 (by kernel_rfl)
    (of_decide_eq_true (by kernel_rfl)) (by unfold Func.isWrapper; first | (rw [if_pos (by decide +kernel)]; kernel_rfl) | (rw [if_neg (by decide +kernel)]; exact ⟨rfl, rfl⟩))
    (fun os started H enc _ => lifted os started H enc)

theorem tasteNamed : Rows.TasteNamedSaid :=
  over
#print axioms tasteNamed
end Go.Proofs.Ytdlfikobjnjmaaa
