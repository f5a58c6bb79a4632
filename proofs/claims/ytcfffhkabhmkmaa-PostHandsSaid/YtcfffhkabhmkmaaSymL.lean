/- Lists that are cut to their length and appended to: the old row stays. -/
import Derived.Test.YtcfffhkabhmkmaaSymS
namespace Go.Abs
set_option linter.unusedSectionVars false
variable [Globs]
open Go Go.Mth
set_option linter.unusedVariables false
set_option linter.unusedSimpArgs false
attribute [local irreducible] gOK WS WC WR WD Ends FS YS seqK blockK loopK midK retK rdK asgK rangeEnd sat
section
variable {C : CW} {nt : Nat} {L : Env} {D : List Nat} {H : Heap} {K : St → Prop} {M M' : HL} {n i d : Nat} {gd : Option (Tmp × Bool)} {lo : List Nat} {l : List POp} {rs : List Rd}
/-- A list, in whatever row. -/
def LstW (M : HL) (v : Value) (cs : List Value) : Prop := (cs = [] ∧ v = .slice none 0 0) ∨ ∃ b o u cap, v = .slice (some ⟨b, o, some u⟩) cs.length cap ∧ KCell M b o u cs ∧
  ((cap = 2 * 1 ∧ cs ≠ []) ∨ (∃ R, cap = roomCode 1 R ∧ cs.length ≤ R) ∨ ∃ c, cap = 2 * c + 1 ∧ cs.length ≤ c)
/-- One that is full. -/
def ClipW (M : HL) (v : Value) (cs : List Value) : Prop := (cs = [] ∧ v = .slice none 0 0) ∨ ∃ b o u, v = .slice (some ⟨b, o, some u⟩) cs.length (2 * cs.length + 1) ∧ KCell M b o u cs
theorem LstW.mono {v : Value} {cs : List Value} (h : LstW M v cs) (k : ∀ q ∈ M, q ∈ M') : LstW M' v cs := by
  rcases h with h | ⟨b, o, u, cap, h1, h2, h3⟩
  · exact .inl h
  · exact .inr ⟨b, o, u, cap, h1, h2.mono k, h3⟩
theorem ClipW.mono {v : Value} {cs : List Value} (h : ClipW M v cs) (k : ∀ q ∈ M, q ∈ M') : ClipW M' v cs := by
  rcases h with h | ⟨b, o, u, h1, h2⟩
  · exact .inl h
  · exact .inr ⟨b, o, u, h1, h2.mono k⟩
theorem LstW.sl {v : Value} {cs : List Value} (h : LstW M v cs) : Sl M 1 v cs := by
  rcases h with ⟨rfl, rfl⟩ | ⟨b, o, u, cap, rfl, ⟨ch, lo, cells, h1, h2, h3, h4, h5⟩, h6⟩
  · exact .nil 0
  · refine .row h1 h2 h3 (by simp) h5 h4 ?_
    rcases h6 with ⟨rfl, _⟩ | ⟨R, rfl, h7⟩ | ⟨c, rfl, h7⟩
    · exact .inl (.inl rfl)
    · exact .inl (.inr ⟨R, rfl, h7⟩)
    · exact .inr ⟨_, rfl, h7⟩
theorem LstW.one_ {v : Value} {cs : List Value} (h : LstW M v cs) : one v = true := h.sl.one_
theorem LstW.none (M : HL) : LstW M (.slice none 0 0) [] := .inl ⟨rfl, rfl⟩
theorem LstW.row {b e len : Nat} {cs : List Value} (hm : (b, Ch.row e 0 0 cs) ∈ M) (hl : cs.length = len) (h0 : cs ≠ []) : LstW M (.slice (some ⟨b, 0, some 0⟩) len (2 * 1)) cs := by
  subst hl
  exact .inr ⟨b, 0, 0, 2 * 1, rfl, ⟨_, 0, cs, hm, .row _ _ _ _, Nat.le_refl _, by simp, by simp⟩, .inl ⟨rfl, h0⟩⟩
end
end Go.Abs
