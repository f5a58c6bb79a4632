/- From the evaluator's runs to the model's calls. -/
import Derived.Test.YtdlfikobjnjmaaaAbsRun
import Derived.RowKit3
namespace Go.Abs
set_option linter.unusedSectionVars false
variable [Globs]
open Go
set_option linter.unusedVariables false
set_option linter.unusedSimpArgs false

section
variable {C : Ctx} {P : Program} {σ : Ren} {N : Nat} {w : World}

theorem calls_of_run (hC : CtxOK C) {n : Nat} {f : FuncId} {args : List Value} {H H' : Heap} {v : Value} (h : run C n (.call f args H) = some (.val v H')) {args' : Array Value} (hH : HR C.P σ N H w) (hv : VL σ args args'.toList) :
    Calls C.P f args' w fun e w' => ∃ τ v', e = .returned v' ∧ σ.le τ ∧ HR C.P τ N H' w' ∧ VR τ v v' ∧ Fr σ H w τ H' w' := by
  intro cs
  obtain ⟨τ, w', v', fr, q1, q2, q3, q4, q5, q6, q7⟩ := (run_sound hC n _ _ h).2 σ N w args' hH hv cs
  exact ⟨.returned v', w', fr, ⟨τ, v', rfl, q1, q2, q3, q4⟩, q5, q6, q7⟩

def noRen : Ren := ⟨fun _ _ => none, fun _ => none⟩
def noHeap : Heap := { next := 0, t := .nil }

theorem noHeap_HR (hG : GlobIn w.heap.size w) : HR P noRen w.heap.size noHeap w :=
  ⟨fun f e ro vs top c h => (by cases h), fun f g e e' ro ro' vs vs' top top' c c' h => (by cases h), fun f o h => (by cases h), fun f g o o' b h => (by cases h), fun f h => ⟨fun _ => rfl, rfl, rfl⟩, fun f e ro vs top c h => (by cases h), Nat.le_refl _, hG⟩

theorem noHeap_Img {b : Nat} (h : Img noRen noHeap b) : False := by
  rcases h with ⟨f, e, vs, top, c, v, l, h1, _⟩ | ⟨f, o, h1, _⟩ <;> cases h1

theorem grown_of_fr {τ : Ren} {H' : Heap} {w' : World} (h : Fr noRen noHeap w τ H' w') : Go.RowKit.Grown w w' := by
  have hold : ∀ b, b < w.heap.size → w'.heap[b]? = w.heap[b]? := fun b hb => h.old b hb noHeap_Img
  refine ⟨⟨h.os, h.output, fun i hi => ?_⟩, fun a => ?_, h.size⟩
  · rw [hold i hi]
    cases w.heap[i]? with
    | none => exact rfl
    | some o =>
      cases o <;> first
        | exact ⟨rfl, rfl, rfl, fun _ _ => rfl⟩
        | exact .inr ⟨rfl, rfl⟩
        | exact rfl
  · unfold World.frozen?
    by_cases hb : a.block < w.heap.size
    · rw [hold _ hb]
    · have e1 : w.heap[a.block]? = none := Array.getElem?_eq_none (Nat.le_of_not_lt hb)
      rw [e1]
      cases hx : w'.heap[a.block]? with
      | none => rfl
      | some o =>
        cases o with
        | cells cs e fz =>
          have := h.new _ cs e fz (Nat.le_of_not_lt hb) hx
          subst this
          simp
        | _ => rfl

/-- A call of nothing. -/
theorem calls_bool (hC : CtxOK C) {n : Nat} {f : FuncId} {b : Bool} {H' : Heap} (h : run C n (.call f [] noHeap) = some (.val (.bool b) H')) (w : World) (hG : GlobIn w.heap.size w := by (intro _ _ h; cases h)) :
    Calls C.P f #[] w fun e w' => e = .returned (.bool b) ∧ Go.RowKit.Grown w w' := by
  refine (calls_of_run hC h (σ := noRen) (N := w.heap.size) (w := w) (args' := #[]) (noHeap_HR hG) .nil).mono fun e w' ⟨τ, v', he, _, _, hv, hf⟩ => ?_
  cases hv
  exact ⟨he, grown_of_fr hf⟩

/-- Entries may be forgotten. -/
def Heap.Sub (H1 H : Heap) : Prop := H1.next = H.next ∧ ∀ f o, H1.t.get f = some o → H.t.get f = some o

theorem HR.sub {H1 H : Heap} (h : HR P σ N H w) (k : H1.Sub H) : HR P σ N H1 w := by
  refine ⟨fun f e ro vs top c hg => h.rows f e ro vs top c (k.2 _ _ hg), fun f g e e' ro ro' vs vs' top top' c c' h1 h2 => h.uniq f g e e' ro ro' vs vs' top top' c c' (k.2 _ _ h1) (k.2 _ _ h2),
    fun f o hg hn => h.objs f o (k.2 _ _ hg) hn, fun f g o o' b h1 n1 h2 n2 => h.uniqO f g o o' b (k.2 _ _ h1) n1 (k.2 _ _ h2) n2,
    fun f hf => ?_, fun f e ro vs top c hg => h.tops f e ro vs top c (k.2 _ _ hg), h.size, h.glob⟩
  obtain ⟨p1, p2, p3⟩ := h.next f (k.1 ▸ hf)
  refine ⟨p1, p2, ?_⟩
  cases hg : H1.t.get f with
  | none => rfl
  | some o => rw [k.2 _ _ hg] at p3; cases p3

theorem Img.sub {H1 H : Heap} (k : H1.Sub H) {b : Nat} (h : Img σ H1 b) : Img σ H b := by
  rcases h with ⟨f, e, vs, top, c, v, l, h1, h2⟩ | ⟨f, o, h1, h2⟩
  · exact .inl ⟨f, e, vs, top, c, v, l, k.2 _ _ h1, h2⟩
  · exact .inr ⟨f, o, k.2 _ _ h1, h2⟩

theorem Fr.sub {τ : Ren} {H H1 H2 : Heap} {w' : World} (h : Fr σ H w τ H1 w') (k : H2.Sub H1) : Fr σ H w τ H2 w' :=
  ⟨h.size, h.os, h.output, h.old, fun b hb hi => h.img b hb (Img.sub k hi), h.back, h.new⟩

/-- What a call has come to, without what nobody needs. -/
theorem Said.sub {f : FuncId} {args : List Value} {H H1 H2 : Heap} {v : Value} (h : Said C (.call f args H) (.val v H1)) (k : H2.Sub H1) : Said C (.call f args H) (.val v H2) := by
  refine ⟨h.1, fun σ N w args' hH hv cs => ?_⟩
  obtain ⟨τ, w', v', fr, q1, q2, q3, q4, q5⟩ := h.2 σ N w args' hH hv cs
  exact ⟨τ, w', v', fr, q1, HR.sub q2 k, q3, Fr.sub q4 k, q5⟩

end
end Go.Abs
