/- The evaluator with more fuel comes to the same. -/
import Derived.Test.YtdlfikobjnjmaaaAbsOra
namespace Go.Abs
set_option linter.unusedSectionVars false
variable [Globs]
open Go
set_option linter.unusedVariables false
set_option linter.unusedSimpArgs false
set_option linter.unusedSectionVars false

def Le (ih ih' : Req → Option Resp) : Prop := ∀ q r, ih q = some r → ih' q = some r

section
variable {C : Ctx} {ih ih' : Req → Option Resp} (k : Le ih ih')
include k

theorem ans_mono {H : Heap} {o : ORes} {r : Resp} (h : ans ih H o = some r) : ans ih' H o = some r := by
  cases o with
  | val v H' => exact h
  | call f args => exact k _ _ h
  | yield l args => exact k _ _ h
  | bad => cases h

theorem afterOp_mono {nt : Nat} {s : St} {d : Option Tmp} {a b : Option Resp} (hab : ∀ r, a = some r → b = some r) {s' : St} (h : afterOp nt s d a = some s') : afterOp nt s d b = some s' := by
  cases a with
  | none => cases h
  | some r => rw [hab r rfl]; exact h

theorem doOp_mono {nt : Nat} {o : POp} {s s' : St} (h : doOp C ih nt o s = some s') : doOp C ih' nt o s = some s' := by
  unfold doOp at h ⊢
  cases hw : wantedA s.t o with
  | true => rw [hw, cond_true] at h; rw [cond_true]; exact afterOp_mono k (fun r hr => ans_mono k hr) h
  | false => rw [hw, cond_false] at h; rw [cond_false]; exact h

theorem stepOps_mono {nt : Nat} : ∀ {l : List POp} {s s' : St}, stepOps C ih nt l s = some s' → stepOps C ih' nt l s = some s'
  | [], s, s', h => h
  | o :: l, s, s', h => by
    unfold stepOps at h ⊢
    cases hd : doOp C ih nt o s with
    | none => rw [hd] at h; cases h
    | some s1 => rw [hd] at h; rw [doOp_mono k hd]; exact stepOps_mono h

theorem stepOpsD_mono' {nt : Nat} : ∀ {l : List POp} {rs : List Rd} {s s' : St}, stepOpsD C ih nt l rs s = some s' → stepOpsD C ih' nt l rs s = some s'
  | [], rs, s, s', h => h
  | o :: l, rs, s, s', h => by
    unfold stepOpsD at h ⊢
    cases hd : doOp C ih nt o s with
    | none => rw [hd] at h; cases h
    | some s1 =>
      rw [hd] at h; rw [doOp_mono k hd]
      simp only at h ⊢
      cases hs : stands s1.H o.loose rs with
      | true => rw [hs, cond_true] at h; rw [cond_true]; exact stepOpsD_mono' h
      | false => rw [hs] at h; cases h

theorem thenC_mono {f f' : St → Option Resp} {a b : Option Resp} (hab : ∀ r, a = some r → b = some r) (hf : ∀ s r, f s = some r → f' s = some r) {r : Resp} (h : thenC f a = some r) : thenC f' b = some r := by
  cases a with
  | none => cases h
  | some q =>
    rw [hab q rfl]
    cases q with
    | val v H => exact h
    | code e s => cases e <;> first | exact hf _ _ h | exact h

theorem blockC_mono {id : Nat} {a b : Option Resp} (hab : ∀ r, a = some r → b = some r) {r : Resp} (h : blockC id a = some r) : blockC id b = some r := by
  cases a with
  | none => cases h
  | some q => rw [hab q rfl]; exact h

theorem scopeC_mono {ro fn nt whole} {a b : Option Resp} (hab : ∀ r, a = some r → b = some r) {r : Resp} (h : scopeC ih ro fn nt whole a = some r) : scopeC ih' ro fn nt whole b = some r := by
  cases a with
  | none => cases h
  | some q =>
    rw [hab q rfl]
    cases q with
    | val v H => exact h
    | code e s =>
      cases e with
      | goto l =>
        simp only [scopeC] at h ⊢
        cases hl : findLabelA whole l with
        | none => rw [hl] at h; exact h
        | some rest => rw [hl] at h; exact k _ _ h
      | _ => exact h

theorem endRange_mono {l t d} {a b : Option Resp} (hab : ∀ r, a = some r → b = some r) {r : Resp} (h : endRange l t d a = some r) : endRange l t d b = some r := by
  cases a with
  | none => cases h
  | some q => rw [hab q rfl]; exact h

theorem rangeC_mono {fn nt f ps asg body t d H} {r : Resp} (h : rangeC ih fn nt f ps asg body t d H = some r) : rangeC ih' fn nt f ps asg body t d H = some r := by
  unfold rangeC at h ⊢
  split at h
  · exact endRange_mono k (fun r hr => k _ _ hr) h
  · cases h

theorem normal_mono {a b : Option St} (hab : ∀ r, a = some r → b = some r) {r : Resp} (h : normal a = some r) : normal b = some r := by
  cases a with
  | none => cases h
  | some q => rw [hab q rfl]; exact h

theorem stepC_mono {ro : Option Nat} {fn : FuncId} {nt : Nat} : ∀ {c : PC} {s : St} {r : Resp}, stepC C ih ro fn nt c s = some r → stepC C ih' ro fn nt c s = some r := by
  intro c
  induction c with
  | skip => intro s r h; exact h
  | label l => intro s r h; exact h
  | exit l => intro s r h; exact h
  | goto l => intro s r h; exact h
  | ret => intro s r h; exact h
  | region d l =>
    intro s r h
    cases d with
    | false => simp only [stepC] at h ⊢; exact normal_mono k (fun r hr => stepOps_mono k hr) h
    | true => simp only [stepC] at h ⊢; exact normal_mono k (fun r hr => stepOpsD_mono' k hr) h
  | seq a b iha ihb => intro s r h; simp only [stepC] at h ⊢; exact thenC_mono k (fun r hr => iha hr) (fun s r hr => ihb hr) h
  | cond x a b iha ihb =>
    intro s r h
    simp only [stepC] at h ⊢
    generalize evalO s.t x = v at h ⊢
    cases v with
    | bool q => cases q; exact ihb h; exact iha h
    | _ => cases h
  | block id b ihb => intro s r h; simp only [stepC] at h ⊢; exact blockC_mono k (fun r hr => ihb hr) h
  | loop b ihb => intro s r h; simp only [stepC] at h ⊢; exact thenC_mono k (fun r hr => ihb hr) (fun s r hr => k _ _ hr) h
  | scope b ihb => intro s r h; simp only [stepC] at h ⊢; exact scopeC_mono k (fun r hr => ihb hr) h
  | rangeFunc f ps a b _ _ =>
    intro s r h
    simp only [stepC] at h ⊢
    split at h
    · split at h
      · exact rangeC_mono k h
      · cases h
    · exact rangeC_mono k h

theorem endCall_mono {rs} {a b : Option Resp} (hab : ∀ r, a = some r → b = some r) {r : Resp} (h : endCall rs a = some r) : endCall rs b = some r := by
  cases a with
  | none => cases h
  | some q => rw [hab q rfl]; exact h

theorem endRd_mono {l} {a b : Option Resp} (hab : ∀ r, a = some r → b = some r) {r : Resp} (h : endRd l a = some r) : endRd l b = some r := by
  cases a with
  | none => cases h
  | some q => rw [hab q rfl]; exact h

theorem bodyRd_mono {l fn nt body} {a b : Option Resp} (hab : ∀ r, a = some r → b = some r) {r : Resp} (h : bodyRd C ih l fn nt body a = some r) : bodyRd C ih' l fn nt body b = some r := by
  cases a with
  | none => cases h
  | some q =>
    rw [hab q rfl]
    unfold bodyRd at h ⊢
    split at h
    · rename_i s hq
      cases hq
      split at h
      · rename_i r0 hg
        split at h
        · rename_i hst
          exact endRd_mono k (fun r hr => stepC_mono k hr) h
        · cases h
      · cases h
    · cases h

theorem step_mono {q : Req} {r : Resp} (h : step C ih q = some r) : step C ih' q = some r := by
  cases q with
  | code ro fn nt c s => exact stepC_mono k h
  | scope ro fn nt whole c s => exact scopeC_mono k (fun r hr => stepC_mono k hr) h
  | call f args H =>
    simp only [step, stepCall] at h ⊢
    split at h
    · cases h
    · rename_i pf hf
      unfold callPF at h ⊢
      cases hb : Nat.ble args.length pf.nt with
      | true => rw [hb, cond_true] at h; rw [cond_true]; exact endCall_mono k (fun r hr => stepC_mono k hr) h
      | false => rw [hb] at h; cases h
  | yield l args H =>
    simp only [step, stepYield] at h ⊢
    split at h
    · rename_i r0 hg
      unfold stepRd at h ⊢
      split at h
      · exact bodyRd_mono k (fun r hr => stepC_mono k hr) h
      · cases h
    · cases h

end

/-- A program, and one function of it that is known to return true. -/
structure CW where
  c : Ctx
  w : FuncId

def ihW (w : FuncId) (ih : Req → Option Resp) : Req → Option Resp
  | .call f args H => bif Nat.beq f w && args.isEmpty then some (.val (.bool true) H) else ih (.call f args H)
  | q => ih q

def runW (C : CW) : Nat → Req → Option Resp
  | 0 => ihW C.w (fun _ => none)
  | n + 1 => ihW C.w (fun q => step C.c (runW C n) q)

theorem ihW_mono {w : FuncId} {ih ih' : Req → Option Resp} (k : Le ih ih') : Le (ihW w ih) (ihW w ih') := by
  intro q r h
  cases q with
  | call f args H =>
    simp only [ihW] at h ⊢
    cases hb : (Nat.beq f w && args.isEmpty) with
    | true => rw [hb, cond_true] at h; rw [cond_true]; exact h
    | false => rw [hb, cond_false] at h; rw [cond_false]; exact k _ _ h
  | _ => exact k _ _ h

theorem run_mono1 {C : CW} : ∀ (n : Nat), Le (runW C n) (runW C (n + 1))
  | 0 => ihW_mono (fun q r h => by cases h)
  | n + 1 => ihW_mono (fun q r h => step_mono (run_mono1 n) h)

theorem run_mono {C : CW} {n m : Nat} (h : n ≤ m) : Le (runW C n) (runW C m) := by
  induction h with
  | refl => exact fun _ _ h => h
  | step _ ih => exact fun q r hq => run_mono1 _ _ _ (ih q r hq)

/-- What a run comes to, the model's calls come to. -/
theorem runW_sound {C : CW} (hC : CtxOK C.c) (hw : ∀ H, Said C.c (.call C.w [] H) (.val (.bool true) H)) : ∀ (n : Nat) (q : Req) (r : Resp), runW C n q = some r → Said C.c q r := by
  have key : ∀ (ih : Req → Option Resp), (∀ q r, ih q = some r → Said C.c q r) → ∀ q r, ihW C.w ih q = some r → Said C.c q r := by
    intro ih hi q r h
    cases q with
    | call f args H =>
      simp only [ihW] at h
      cases hb : (Nat.beq f C.w && args.isEmpty) with
      | true =>
        rw [hb, cond_true] at h; cases h
        simp only [Bool.and_eq_true] at hb
        have h1 := Nat.eq_of_beq_eq_true hb.1
        have h2 : args = [] := List.isEmpty_iff.1 hb.2
        rw [h1, h2]; exact hw H
      | false => rw [hb, cond_false] at h; exact hi _ _ h
    | _ => exact hi _ _ h
  intro n
  induction n with
  | zero => exact key _ (fun q r h => by cases h)
  | succ n ih => exact key _ (fun q r h => step_sound hC ih q r h)

end Go.Abs
