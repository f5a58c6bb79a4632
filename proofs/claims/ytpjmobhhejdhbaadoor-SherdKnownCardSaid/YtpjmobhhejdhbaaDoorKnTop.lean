/- The law SherdKnown returns true, whatever the world: its one call is carried out by an evaluator that is proved sound, in the kernel. No condition. -/
import Derived.Test.YtpjmobhhejdhbaaDoorAbsCalls
import Derived.Test.YtpjmobhhejdhbaaDoorLiftG
import Derived.Test.YtpjmobhhejdhbaaDoorKnT15
import Derived.Test.YtpjmobhhejdhbaaDoorKnO
import Derived.WalkKit
import Derived.ProofKit
import Derived.OpenShut
import Derived.Lay
import Derived.LaidByTextLater
import Derived.LaidOnce
import Derived.Shelf.Vars
import Derived.SevenTiedAt
import Derived.Test.YtpjmobhhejdhbaaDoorTie
import Derived.Test.YtpjmobhhejdhbaaDoorCards
namespace Go.Proofs.YtpjmobhhejdhbaaDoor
open Go.ChangeShapes Go.WideShapes Go.ChangeAt Go.RowKit Go.Abs
set_option linter.unusedVariables false

theorem own : ownKnob Tryd.prog.godebug = none := by kernel_rfl

set_option maxRecDepth 100000 in
/-- The variables' cells: noJoin's as the text lays them; MaxLen's is some number. -/
theorem globs {W : World} (hL : laidMetH Tryd.prog [("bellarmine/sherd.noJoin", Rows.laid_bellarmine_sherd_noJoin)] W) (hsh : W.ShapedOpen Tryd.prog) : ∃ m : Int, @GlobIn (@glH ⟨m⟩) W.heap.size W := by
  rw [MakeChecks.laidMetH_plain _ _ _ (by kernel_rfl)] at hL
  obtain ⟨ps, hv, _⟩ := hL
  obtain ⟨cs, fuel, p, q, hc, hd, _⟩ := cells_of_laid hv (g := 0) (by kernel_rfl) (t := 48) (by kernel_rfl)
  obtain ⟨m, hm⟩ := cell_of_shapedOpen_int (P := Tryd.prog) (g := 1) (t := 3) (zero := #[.int .i64 0]) hsh (of_decide_eq_true (by kernel_rfl)) (by kernel_rfl) rfl (by kernel_rfl) (by kernel_rfl) Tryd.underlying3
  have h2 : cs = #[.int .i64 (-1), .int .i64 (-1)] := by
    have c1 : Tryd.prog.cellsOf 3 = 1 := by kernel_rfl
    have c2 : Tryd.prog.cellsOf 48 = 2 := by kernel_rfl
    obtain ⟨xs, n0, n1, ex, hlen, hl, hel⟩ := DataW.trod_array Tryd.underlying48 hd
    rw [c2] at hlen
    obtain ⟨l⟩ := cs
    match l, hlen with
    | [a, b], _ =>
      match xs, hl with
      | [x0, x1], _ =>
        have e3 := (DataW.agg.inj (Prod.mk.inj ex).1)
        simp only [List.map_cons, List.map_nil, List.cons.injEq, and_true] at e3
        have k0 := hel 0 (by omega); have k1 := hel 1 (by omega)
        rw [c1] at k0 k1
        obtain ⟨z0, a0, b0, _⟩ := DataW.trod_int Tryd.underlying3 k0
        obtain ⟨z1, a1, b1, _⟩ := DataW.trod_int Tryd.underlying3 k1
        simp_all
        omega
  refine ⟨m, fun g ls hg => ?_⟩
  have hg' : (bif Nat.beq g 0 then some [Value.int .i64 (.negSucc 0), .int .i64 (.negSucc 0)] else bif Nat.beq g 1 then some [.int .i64 m] else none) = some ls := hg
  cases e0 : Nat.beq g 0 with
  | true =>
    rw [e0, cond_true] at hg'
    obtain rfl := Nat.eq_of_beq_eq_true e0
    cases hg'
    refine glob_of_cells (by simp) fun i x hx => ?_
    rw [hc, h2, ← hx]
    rcases i with _ | _ | i <;> rfl
  | false =>
    rw [e0, cond_false] at hg'
    cases e1 : Nat.beq g 1 with
    | true =>
      rw [e1, cond_true] at hg'
      obtain rfl := Nat.eq_of_beq_eq_true e1
      cases hg'
      refine glob_of_cells (by simp) fun i x hx => ?_
      rcases i with _ | i
      · rw [hm, ← hx]; rfl
      · cases hx
    | false => rw [e1, cond_false] at hg'; cases hg'

set_option maxRecDepth 100000 in
theorem lifted (os : Os) (started : os.Started) (H : Type) (enc : TypeId × Value → H) :
    ReturnsInHanded {} Tryd.checked os 15 .any (fun w args => (Rows.sherdKnownSpec.pre enc Tryd.prog Tryd.f15 [] false w args ∧ laidMetH Tryd.prog Rows.sherdKnownRow.laid w) ∧ sizedMet enc Tryd.prog Tryd.f15 (OpenSpec.ofChange Rows.sherdKnownSpec) false w args)
      (Rows.sherdKnownSpec.post enc Tryd.prog Tryd.f15 false true false false) := by
  refine returns_laid_shaped (C := Tryd.checked) (X := fun w _ => laidMetH Tryd.prog Rows.sherdKnownRow.laid w) (fun _ _ _ hh h => h.of_heap hh) own started (by kernel_rfl) Tryd.func15
    (ChangeSpec.witness_at (enc := enc) (C := Tryd.checked) (os := os) (X := fun w _ => laidMetH Tryd.prog Rows.sherdKnownRow.laid w) false (World.laidAll Tryd.prog os Rows.sherdKnownRow.laid) #[] 8 (World.laidAll_os _ _ _) (by kernel_rfl) (by kernel_rfl) (by kernel_rfl) (by kernel_rfl) (by kernel_rfl)
      (by rw [MakeChecks.laidMetH_plain _ _ _ (by kernel_rfl)]; exact laidMet_laidAll _ (by kernel_rfl) (by kernel_rfl))) ?_
  intro W base args ds gs before hval0 hW _ hL hsh
  have hW' := hW
  obtain ⟨p, q, hA0, hV, rfl, hfz, hnd⟩ := hW
  have hA : DataW.TrodAll enc Tryd.prog W 0 (fun _ => true) true Tryd.f15.params.toList args.toList ds p := hA0
  rw [Tryd.params15] at hA
  obtain ⟨hargs, rfl, rfl⟩ := trodAll_nil hA
  obtain rfl : args = #[] := by cases args; simp_all
  obtain ⟨rfl, rfl⟩ := trodVars_none hV
  clear hA0 hval0
  simp only [List.append_nil] at hW'
  obtain ⟨m, hG⟩ := globs hL hsh
  refine (@Said.calls (@glH ⟨m⟩) _ _ _ _ (@Ev.said15 ⟨m⟩) W hG).mono fun e W' ⟨he, hg⟩ => ?_
  subst he
  exact ⟨_, rfl, post_of_same (pa := []) (pv := []) hW' (fun _ _ _ => (trodAll_cons_mk (shut_bool Tryd.underlying4 _) trodAll_mk0)) (fun sp _ => trodAll_mk0) (fun _ _ => rfl) rfl
    (hg.frame _) hg.2.1 (ok_one (by kernel_rfl) rfl (okWide_bool_mk Tryd.underlying4 _))⟩

theorem over : Rows.sherdKnownRow.holds Tryd.pinned (OpenSpec.ofChange Rows.sherdKnownSpec) :=
  OpenClaim.holds_of_wide 15 Tryd.f15 rfl rfl rfl rfl rfl rfl rfl ⟨rfl, rfl, rfl, rfl, rfl⟩ rfl rfl rfl rfl rfl (by kernel_rfl) Tryd.func15 (by kernel_rfl)
    (of_decide_eq_true (by kernel_rfl)) (by unfold Func.isWrapper; first | (rw [if_pos (by decide +kernel)]; kernel_rfl) | (rw [if_neg (by decide +kernel)]; exact ⟨rfl, rfl⟩))
    (fun os started H enc _ => lifted os started H enc)

theorem sherdKnown : Rows.SherdKnownCardSaid :=
  Claim7.holds_tied_plain_at .later [] [.data] true (true, "b5ffe22b902bdf1fbc5fb93123f9eb174646a09c323efb34b4ac67f01ae6a273") false over (fun _ h => by cases h) (by kernel_rfl) (fun _ h => by cases h) sherdKnown_row_tie rfl ⟨rfl, rfl⟩ (by kernel_rfl) rfl
    (fun f fn hf hfn => by
      obtain rfl : f = 15 := Option.some.inj ((show Tryd.prog.funcNamed "bellarmine/bellarminelaw05.SherdKnown" = some 15 by kernel_rfl).symm.trans hf) |>.symm
      obtain rfl : fn = Tryd.f15 := (Option.some.inj (Tryd.func15.symm.trans hfn)).symm
      exact ⟨by kernel_rfl, fun j t ht => by
        rw [Tryd.params15] at ht
        simp at ht⟩)
    (by kernel_rfl)
#print axioms sherdKnown
end Go.Proofs.YtpjmobhhejdhbaaDoor
