/- Strings: their length, their bytes, whether two are equal; bytes that become one. -/
import Derived.Test.YtcfffhkabhmkmaaSymZ
import Derived.Test.YtcfffhkabhmkmaaAr2
namespace Go.Abs
set_option linter.unusedSectionVars false
variable [Globs]
open Go Go.Mth
set_option linter.unusedVariables false
set_option linter.unusedSimpArgs false
attribute [local irreducible] gOK WS WC WR WD Ends FS YS seqK blockK loopK midK retK rdK asgK rangeEnd sat
section
variable {C : CW} {nt : Nat} {L : Env} {D : List Nat} {H : Heap} {K : St → Prop} {M M' : HL} {n i d : Nat} {gd : Option (Tmp × Bool)} {lo : List Nat} {l : List POp}
/-- A string of these bytes. -/
def strB (l : List Nat) : ByteArray := ⟨(l.map UInt8.ofNat).toArray⟩
theorem strB_push (a : List Nat) (b : Nat) : (strB a).push (UInt8.ofNat b) = strB (a ++ [b]) := by
  apply ByteArray.ext
  simp [strB, ByteArray.push]
theorem catS_bytes (l a : List Nat) : catS 0 (numsK .u8 l) (strB a) = some (.string (strB (a ++ l))) := by
  induction l generalizing a with
  | nil => simp [numsK, catS]
  | cons x l ih =>
    show catS 0 (.int .u8 (x : Int) :: numsK .u8 l) (strB a) = _
    have e : (((x : Int)).toNat) = x := rfl
    simp only [catS, e, strB_push, ih, List.append_assoc, List.singleton_append]
    rfl
theorem OpV.cts {x : Operand} {v : Value} {bs : List Nat} (hx : ev L x = some v) (hS : Sl M 1 v (numsK .u8 bs)) (h0 : bs ≠ []) (hH : hasH M n H) : OpV C (.cts 0 x) L H (.string (strB bs)) H := by
  intro t ht
  simp only [opA, ev_ok ht hx]
  have hne : numsK .u8 bs ≠ [] := by intro e; exact h0 (by simpa [numsK] using e)
  have hc2 : catS 0 (numsK .u8 bs) ByteArray.empty = some (.string (strB bs)) := catS_bytes bs []
  generalize numsK .u8 bs = q at hS hne hc2
  cases hS with
  | nil c => exact absurd rfl hne
  | emp a => exact absurd rfl hne
  | row hm hc hlo hl hv hin hp =>
    rename_i b o u lo len cap ch cs
    have e1 : len = q.length := by omega
    have := hH.readN hm hc hlo (show o - lo + len ≤ cs.length by omega)
    simp only [oCts, this]
    have h2 : (cs.drop (o - lo)).take len = q := by rw [e1]; exact hv
    rw [h2, hc2]; rfl
theorem StkO.src {e : Nat} {v : Value} {S : List Value} {Mx T : HL} (h : StkO e v S Mx) (hH : hasH (Mx ++ T) n H) : srcLen v = some S.length ∧ srcCells H 1 S.length v = some S := by
  cases h with
  | nil => exact ⟨rfl, rfl⟩
  | mk hl hS hc hb =>
    rename_i b u o len cp cs
    have hle := hc.le
    have := hH.readN (b := b) (u := u) (lo := o) (o := o) (k := len) (ch := .row e u o cs) (cs := cs) (by simp) (.row _ _ _ _) (Nat.le_refl _) (by omega)
    rw [Nat.sub_self, List.drop_zero, ← hS] at this
    exact ⟨by rw [hl]; rfl, by simp only [srcCells, Nat.mul_one]; rw [hl]; exact this⟩
end
end Go.Abs
