/- The law PostNamed returns true, whatever its input: another place is 0 and the numbers are others: the shore's answers stay the same (at most 10 places by numbers). No condition. -/
import Derived.Test.YtcfffhkabhmkmaaDoorJ4
import Derived.Test.YtcfffhkabhmkmaaDoorPsF
import Derived.Test.YtcfffhkabhmkmaaDoorJ5
import Derived.Test.YtcfffhkabhmkmaaDoorJ6
import Derived.Test.YtcfffhkabhmkmaaDoorKnT19
import Derived.WalkKit
import Derived.ProofKit
import Derived.OpenShut
import Derived.Lay
import Derived.MakeChecks
import Derived.LaidByTextLater
import Derived.LaidOnce
import Derived.Shelf.Vars
import Derived.SevenTiedAt
import Derived.Test.YtcfffhkabhmkmaaDoorTie
import Derived.Test.YtcfffhkabhmkmaaDoorCards
namespace Go.Proofs.YtcfffhkabhmkmaaDoor
open Go.ChangeShapes Go.WideShapes Go.ChangeAt Go.RowKit Go.Abs
set_option linter.unusedVariables false
set_option linter.unusedSimpArgs false

theorem own : ownKnob Tryd.prog.godebug = none := by kernel_rfl
theorem laidOut : laidOutB Tryd.prog = true := by kernel_rfl
theorem works_said (H : Heap) : Said Ps.C.c (.call Ps.C.w [] H) (.val (.bool true) H) := (Said.frame Ev.said19 H : Said Ev.C (.call 19 [] H) (.val (.bool true) H))

set_option maxRecDepth 100000 in
theorem globs {W : World} (hL : laidMetH Tryd.prog [("math/bits.deBruijn32tab", Rows.laid_math_bits_deBruijn32tab), ("math/bits.deBruijn64tab", Rows.laid_math_bits_deBruijn64tab)] W) : GlobIn W.heap.size W := by
  rw [MakeChecks.laidMetH_plain _ _ _ (by kernel_rfl)] at hL
  obtain ⟨ps, hv, _⟩ := hL
  obtain ⟨_, _, _, _, _, _, hv2⟩ := cells_of_laid hv (g := 0) (by kernel_rfl) (t := 87) (by kernel_rfl)
  obtain ⟨cs, fuel, p, q, hc, hd, _⟩ := cells_of_laid hv2 (g := 1) (by kernel_rfl) (t := 88) (by kernel_rfl)
  have h2 : cs.toList = bruijn64 := cells_litsK (k := .u8) (ns := [0, 1, 56, 2, 57, 49, 28, 3, 61, 58, 42, 50, 38, 29, 17, 4, 62, 47, 59, 36, 45, 43, 51, 22, 53, 39, 33, 30, 24, 18, 12, 5, 63, 55, 48, 27, 60, 41, 37, 16, 46, 35, 44, 21, 52, 32, 23, 11, 54, 26, 40, 15, 34, 20, 31, 10, 25, 14, 19, 9, 13, 8, 7, 6]) Tryd.underlying88 Tryd.underlying5 (by kernel_rfl) (by kernel_rfl) hd
  intro g ls hg
  have hg' : (bif Nat.beq g 1 then some bruijn64 else none) = some ls := hg
  cases e0 : Nat.beq g 1 with
  | true =>
    rw [e0, cond_true] at hg'
    obtain rfl := Nat.eq_of_beq_eq_true e0
    obtain rfl := Option.some.inj hg'
    refine glob_of_cells (by simp [bruijn64]) fun i x hx => ?_
    rw [hc, ← Array.getElem?_toList, h2, ← hx]
  | false => rw [e0, cond_false] at hg'; cases hg'
theorem half_bd {y : Int} (h : (Lit.int .u16 y).wf = true) : 0 ≤ y ∧ y ≤ 65535 := by
  simp only [Lit.wf, Bool.and_eq_true, decide_eq_true_eq] at h
  have e1 : IntKind.u16.min = 0 := rfl
  have e2 : IntKind.u16.max = 65535 := rfl
  omega
theorem nat_list {k : IntKind} {xs : List Int} {b : Nat} (h : ∀ x ∈ xs, 0 ≤ x ∧ x ≤ (b : Int)) : ∃ l : List Nat, l.length = xs.length ∧ (∀ x ∈ l, x ≤ b) ∧ xs.map (Value.int k) = numsK k l := by
  refine ⟨xs.map Int.toNat, by simp, fun x hx => ?_, ?_⟩
  · obtain ⟨y, hy, rfl⟩ := List.mem_map.1 hx
    have := h y hy
    omega
  · unfold numsK
    rw [List.map_map]
    refine List.map_congr_left fun y hy => ?_
    have := (h y hy).1
    show Value.int k y = Value.int k ((y.toNat : Nat) : Int)
    rw [Int.toNat_of_nonneg this]

theorem walk {x0 : List Nat} (hl0 : x0.length = 11) (hx0 : ∀ x ∈ x0, x ≤ 255) {x1 : Nat} (hx1 : x1 ≤ 255) (b2 : Bool) (w : World) (hG : GlobIn w.heap.size w) :
    Calls Tryd.prog 7 #[.agg (numsK .u8 x0).toArray, .int .u8 (x1 : Int), .bool b2] w fun e w' => e = .returned (.bool true) ∧ Grown w w' :=
  calls_of_FS (C := Ps.C) Ps.ok works_said (args := [.agg (numsK .u8 x0).toArray, .int .u8 (x1 : Int), .bool b2]) (by simp [plainV, plain1, List.all_map, List.all_append, ]) (Ps.PostNamed_fs (hasH.nil noHeap) hl0 hx0 hx1 b2) w hG

set_option maxRecDepth 100000 in
theorem lifted (os : Os) (started : os.Started) (H : Type) (enc : TypeId × Value → H) :
    ReturnsInHanded {} Tryd.checked os 7 .any (fun w args => (Rows.postNamedSpec.pre enc Tryd.prog Tryd.f7 [] false w args ∧ laidMetH Tryd.prog Rows.postNamedRow.laid w) ∧ sizedMet enc Tryd.prog Tryd.f7 (OpenSpec.ofChange Rows.postNamedSpec) false w args)
      (Rows.postNamedSpec.post enc Tryd.prog Tryd.f7 false true false false) := by
  refine returns_laid_shaped (C := Tryd.checked) (X := fun w _ => laidMetH Tryd.prog Rows.postNamedRow.laid w) (fun _ _ _ hh h => h.of_heap hh) own started (by kernel_rfl) Tryd.func7
    (ChangeSpec.witness_at (enc := enc) (C := Tryd.checked) (os := os) (X := fun w _ => laidMetH Tryd.prog Rows.postNamedRow.laid w) false (World.laidAll Tryd.prog os Rows.postNamedRow.laid) #[.agg (List.replicate 11 (Value.int .u8 0)).toArray, .int .u8 0, .bool false] 8 (World.laidAll_os _ _ _) (by kernel_rfl) (by kernel_rfl) (by kernel_rfl) (by kernel_rfl) (by kernel_rfl)
      (by rw [MakeChecks.laidMetH_plain _ _ _ (by kernel_rfl)]; exact laidMet_laidAll _ (by kernel_rfl) (by kernel_rfl))) ?_
  intro W base args ds gs before hval0 hW _ hL hsh
  have hval : ∀ (j : Nat) t v, Tryd.f7.params[j]? = some t → args[j]? = some v → Value.okWide Tryd.prog W .any base t v := hval0
  have hW' := hW
  obtain ⟨p, q, hA0, hV, rfl, hfz, hnd⟩ := hW
  have hA : DataW.TrodAll enc Tryd.prog W 0 (fun _ => true) true Tryd.f7.params.toList args.toList ds p := hA0
  have hA2 := hA
  rw [Tryd.params7] at hA hval
  obtain ⟨v0, l0, d0, e0, p0, q0, hl0, rfl, rfl, h0, h⟩ := trodAll_cons hA
  obtain ⟨v1, l1, d1, e1, p1, q1, rfl, rfl, rfl, h1, h⟩ := trodAll_cons h
  obtain ⟨v2, l2, d2, e2, p2, q2, rfl, rfl, rfl, h2, h⟩ := trodAll_cons h
  obtain ⟨rfl, rfl, rfl⟩ := trodAll_nil h
  obtain rfl : args = #[v0, v1, v2] := by cases args; simp_all
  obtain ⟨rfl, rfl⟩ := trodVars_none hV
  clear hl0
  obtain ⟨xs0, hxl0, rfl, rfl, hxw0⟩ := open_flat Tryd.underlying24 (.cons (.int Tryd.underlying5 (by kernel_rfl)) rfl (.cons (.arr Tryd.underlying22 Tryd.underlying5 (by kernel_rfl) (by kernel_rfl)) rfl (.nil _))) (by kernel_rfl) (hval 0 24 v0 rfl rfl) h0
  obtain ⟨x0, hl0, hx0, hn0⟩ := nat_list (k := .u8) (xs := xs0) (b := 255) (fun x hx => byte_bd (hxw0 x hx))
  obtain ⟨y1, rfl, rfl, rfl, hw1⟩ := open_int Tryd.underlying5 (hval 1 5 v1 rfl rfl) h1
  obtain ⟨x1, rfl⟩ : ∃ n : Nat, y1 = n := ⟨y1.toNat, by have := byte_bd hw1; omega⟩
  have hx1 : x1 ≤ 255 := by have := byte_bd hw1; omega
  obtain ⟨b2, rfl, rfl, rfl⟩ := open_bool Tryd.underlying4 (hval 2 4 v2 rfl rfl) h2
  clear hA0 hval0
  simp only [List.append_nil] at hW' hA2
  have hG := globs hL
  have hwk := walk (hl0.trans hxl0) hx0 hx1 b2 W hG
  rw [← hn0] at hwk
  refine hwk.mono fun e W' ⟨he, hg⟩ => ?_
  subst he
  exact ⟨_, rfl, post_of_same (pa := []) (pv := []) hW' (fun _ _ _ => (trodAll_cons_mk (shut_bool Tryd.underlying4 _) trodAll_mk0))
    (fun sp _ => trodAll_stays laidOut (by rw [Tryd.params7]; exact of_decide_eq_true (by kernel_rfl)) hA2 (fun p hp => by cases hp) (fun p hp => by cases hp)) (fun _ _ => rfl) rfl
    (hg.frame _) hg.2.1 (ok_one (by kernel_rfl) rfl (okWide_bool_mk Tryd.underlying4 _))⟩

theorem over : Rows.postNamedRow.holds Tryd.pinned (OpenSpec.ofChange Rows.postNamedSpec) :=
  OpenClaim.holds_of_wide 7 Tryd.f7 rfl rfl rfl rfl rfl rfl rfl ⟨rfl, rfl, rfl, rfl, rfl⟩ rfl rfl rfl rfl rfl (by kernel_rfl) Tryd.func7 (by kernel_rfl)
    (of_decide_eq_true (by kernel_rfl)) (by unfold Func.isWrapper; first | (rw [if_pos (by decide +kernel)]; kernel_rfl) | (rw [if_neg (by decide +kernel)]; exact ⟨rfl, rfl⟩))
    (fun os started H enc _ => lifted os started H enc)

theorem postNamed : Rows.PostNamedCardSaid :=
  Claim7.holds_tied_plain_at .later [] [.data, .data] true (true, "c9e2bb3c14cfbb38854433023be45e6cd84b587ba2416b240058ef2369ea0549") false over (fun _ h => by cases h) (by kernel_rfl) (fun _ h => by cases h) postNamed_row_tie rfl ⟨rfl, rfl⟩ (by kernel_rfl) rfl
    (fun f fn hf hfn => by
      obtain rfl : f = 7 := Option.some.inj ((show Tryd.prog.funcNamed "bellarmine/bellarminelaw12.PostNamed" = some 7 by kernel_rfl).symm.trans hf) |>.symm
      obtain rfl : fn = Tryd.f7 := (Option.some.inj (Tryd.func7.symm.trans hfn)).symm
      exact ⟨by kernel_rfl, fun j t ht => by
        rw [Tryd.params7] at ht
        rcases j with _ | _ | _ | j
        · obtain rfl := Option.some.inj (show some 24 = some t from ht)
          kernel_rfl
        · obtain rfl := Option.some.inj (show some 5 = some t from ht)
          kernel_rfl
        · obtain rfl := Option.some.inj (show some 4 = some t from ht)
          kernel_rfl
        · cases ht⟩)
    (by kernel_rfl)
#print axioms postNamed
end Go.Proofs.YtcfffhkabhmkmaaDoor
