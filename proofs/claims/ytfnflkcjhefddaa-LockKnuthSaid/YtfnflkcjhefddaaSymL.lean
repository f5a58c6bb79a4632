/- Lists that are cut to their length and appended to: the old row stays. -/
import Derived.Test.YtfnflkcjhefddaaSymS
namespace Go.Abs
set_option linter.unusedSectionVars false
variable [Globs]
open Go Go.Mth
set_option linter.unusedVariables false
set_option linter.unusedSimpArgs false
attribute [local irreducible] gOK WS WC WR WD Ends FS YS seqK blockK loopK midK retK rdK asgK rangeEnd sat
section
variable {C : CW} {nt : Nat} {L : Env} {D : List Nat} {H : Heap} {K : St → Prop} {M M' : HL} {n i d : Nat} {gd : Option (Tmp × Bool)} {lo : List Nat} {l : List POp} {rs : List Rd}
theorem KCell.readN' {b o u : Nat} {vs : List Value} (h : KCell M b o u vs) (hH : hasH M n H) {len : Nat} (hl : vs.length = len) : H.readN ⟨b, o, some u⟩ len = some vs := by
  subst hl
  obtain ⟨ch, lo, cs, h1, h2, h3, h4, h5⟩ := h
  rw [hH.readN h1 h2 h3 h4, h5]
/-- A list, in whatever row. -/
def LstW (M : HL) (v : Value) (cs : List Value) : Prop := (cs = [] ∧ v = .slice none 0 0) ∨ ∃ b o u cap, v = .slice (some ⟨b, o, some u⟩) cs.length cap ∧ KCell M b o u cs ∧
  ((cap = 2 * 1 ∧ cs ≠ []) ∨ (∃ R, cap = roomCode 1 R ∧ cs.length ≤ R) ∨ ∃ c, cap = 2 * c + 1 ∧ cs.length ≤ c)
/-- One that is full. -/
def ClipW (M : HL) (v : Value) (cs : List Value) : Prop := (cs = [] ∧ v = .slice none 0 0) ∨ ∃ b o u, v = .slice (some ⟨b, o, some u⟩) cs.length (2 * cs.length + 1) ∧ KCell M b o u cs
theorem LstW.mono {v : Value} {cs : List Value} (h : LstW M v cs) (k : ∀ q ∈ M, q ∈ M') : LstW M' v cs := by
  rcases h with h | ⟨b, o, u, cap, h1, h2, h3⟩
  · exact .inl h
  · exact .inr ⟨b, o, u, cap, h1, h2.mono k, h3⟩
theorem ClipW.mono {v : Value} {cs : List Value} (h : ClipW M v cs) (k : ∀ q ∈ M, q ∈ M') : ClipW M' v cs := by
  rcases h with h | ⟨b, o, u, h1, h2⟩
  · exact .inl h
  · exact .inr ⟨b, o, u, h1, h2.mono k⟩
theorem LstW.sl {v : Value} {cs : List Value} (h : LstW M v cs) : Sl M 1 v cs := by
  rcases h with ⟨rfl, rfl⟩ | ⟨b, o, u, cap, rfl, ⟨ch, lo, cells, h1, h2, h3, h4, h5⟩, h6⟩
  · exact .nil 0
  · refine .row h1 h2 h3 (by simp) h5 h4 ?_
    rcases h6 with ⟨rfl, _⟩ | ⟨R, rfl, h7⟩ | ⟨c, rfl, h7⟩
    · exact .inl (.inl rfl)
    · exact .inl (.inr ⟨R, rfl, h7⟩)
    · exact .inr ⟨_, rfl, h7⟩
theorem LstW.one_ {v : Value} {cs : List Value} (h : LstW M v cs) : one v = true := h.sl.one_
theorem LstW.none (M : HL) : LstW M (.slice none 0 0) [] := .inl ⟨rfl, rfl⟩
theorem LstW.row {b e len : Nat} {cs : List Value} (hm : (b, Ch.row e 0 0 cs) ∈ M) (hl : cs.length = len) (h0 : cs ≠ []) : LstW M (.slice (some ⟨b, 0, some 0⟩) len (2 * 1)) cs := by
  subst hl
  exact .inr ⟨b, 0, 0, 2 * 1, rfl, ⟨_, 0, cs, hm, .row _ _ _ _, Nat.le_refl _, by simp, by simp⟩, .inl ⟨rfl, h0⟩⟩
theorem OpV.clipW {x hi mx : Operand} {v : Value} {cs : List Value} {kb kc : IntKind} (hx : ev L x = some v) (hS : LstW M v cs) (h2 : ev L hi = some (.int kb (cs.length : Int))) (h3 : ev L mx = some (.int kc (cs.length : Int))) :
    ∃ v', OpV C (.slS x 1 none (some hi) (some mx)) L H v' H ∧ ClipW M v' cs := by
  rcases hS with ⟨rfl, rfl⟩ | ⟨b, o, u, cap, rfl, h1, h6⟩
  · refine ⟨.slice none 0 0, fun t ht => ?_, .inl ⟨rfl, rfl⟩⟩
    simp only [opA, ev_ok ht hx, Option.map_some, Option.map_none, ev_ok ht h2, ev_ok ht h3, oSlS, sliceA, loOf, hiOf, nat_of, Option.isSome_some, Option.isNone_some, Bool.and_false, cond_false, capOf, sliceTo]
    rfl
  · obtain ⟨len, hlen⟩ : ∃ len, cs.length = len := ⟨_, rfl⟩
    have hk : cutKnown 1 (some ⟨b, o, some u⟩) 0 len len = some (.slice (some ⟨b, o, some u⟩) len (2 * len + 1)) := by
      have : (bif Nat.beq len 0 then (⟨b, o, some u⟩ : Addr) else Addr.plus ⟨b, o, some u⟩ (0 * 1)) = ⟨b, o, some u⟩ := by
        cases Nat.beq len 0 <;> rfl
      simp only [cutKnown, this, Nat.sub_zero]
    refine ⟨.slice (some ⟨b, o, some u⟩) len (2 * len + 1), fun t ht => ?_, .inr ⟨b, o, u, by rw [hlen], h1⟩⟩
    rw [hlen] at hx h2 h3 h6
    rcases h6 with ⟨rfl, h0⟩ | ⟨R, rfl, hR⟩ | ⟨c, rfl, hc⟩
    · have hl0 : 1 ≤ len := by have := List.length_pos_iff.2 h0; omega
      have hb0 : Nat.beq len 0 = false := by cases hb : Nat.beq len 0 with | false => rfl | true => have := Nat.eq_of_beq_eq_true hb; omega
      simp only [opA, ev_ok ht hx, Option.map_some, Option.map_none, ev_ok ht h2, ev_ok ht h3, oSlS, sliceA, loOf, hiOf, nat_of, Option.isSome_some, Option.isNone_some, Bool.and_false, cond_false, capOf_open _ (show 1 ≤ 1000 by decide), sliceTo]
      rw [cond_some (by simp [Nat.ble_eq])]
      simp only [cutOpenMax, hb0, cond_false, hk, asVal]
    · simp only [opA, ev_ok ht hx, Option.map_some, Option.map_none, ev_ok ht h2, ev_ok ht h3, oSlS, sliceA, loOf, hiOf, nat_of, Option.isSome_some, Option.isNone_some, Bool.and_false, cond_false, capOf_room _ (show 1 ≤ 1000 by decide), sliceTo]
      rw [cond_some (by simp [Nat.ble_eq, hR])]
      simp only [hk, asVal]
    · simp only [opA, ev_ok ht hx, Option.map_some, Option.map_none, ev_ok ht h2, ev_ok ht h3, oSlS, sliceA, loOf, hiOf, nat_of, Option.isSome_some, Option.isNone_some, Bool.and_false, cond_false, capOf_known, sliceTo]
      rw [cond_some (by simp [Nat.ble_eq, hc])]
      simp only [hk, asVal]
theorem OpV.initW {x hi : Operand} {v y : Value} {cs : List Value} {kd : IntKind} (hx : ev L x = some v) (hS : LstW M v (cs ++ [y])) (hh : ev L hi = some (.int kd (cs.length : Int))) :
    ∃ v', OpV C (.slS x 1 none (some hi) none) L H v' H ∧ LstW M v' cs := by
  rcases hS with ⟨h, _⟩ | ⟨b, o, u, cap, rfl, ⟨ch, lo', cells, h1, h2, h3, h4, h5⟩, h6⟩
  · simp at h
  · rw [List.length_append, List.length_singleton] at h4 h5 h6 hx
    have hK : KCell M b o u cs := by
      refine ⟨ch, lo', cells, h1, h2, h3, by omega, ?_⟩
      have := congrArg (List.take cs.length) h5
      rw [List.take_take, Nat.min_eq_left (by omega), List.take_left'] at this
      · exact this
      · rfl
    rcases h6 with ⟨rfl, _⟩ | ⟨R, rfl, hR⟩ | ⟨c, rfl, hc⟩
    · exact ⟨_, OpV.cutPre hx (.inl ⟨rfl, rfl⟩) hh (by omega) (by omega), .inr ⟨b, o, u, _, rfl, hK, .inr (.inl ⟨_, rfl, by omega⟩)⟩⟩
    · exact ⟨_, OpV.cutPre hx (.inr ⟨rfl, hR⟩) hh (by omega) (by omega), .inr ⟨b, o, u, _, rfl, hK, .inr (.inl ⟨R, rfl, by omega⟩)⟩⟩
    · exact ⟨_, OpV.slHiK hx hh (by omega) (by omega), .inr ⟨b, o, u, _, rfl, hK, .inr (.inr ⟨c, rfl, by omega⟩)⟩⟩
/-- Appended to a list that is full: a new row. -/
theorem OpV.appFullW {e b2 : Nat} {s x : Operand} {v y : Value} {cs : List Value} (hH : hasH M n H) (hs : ev L s = some v) (hS : ClipW M v cs) (hx : ev L x = some (.slice (some ⟨b2, 0, some 0⟩) 1 (2 * 1 + 1))) (hm : (b2, .row e 0 0 [y]) ∈ M) (hone : cs.all one = true) (hy : one y = true) (hl : cs.length ≤ 1000) :
    ∃ H', OpV C (.append e 1 s x) L H (.slice (some ⟨n, 0, some 0⟩) (cs.length + 1) (2 * 1)) H' ∧ hasH ((n, .row e 0 0 (cs ++ [y])) :: M) (n + 1) H' := by
  have hone2 : (cs ++ [y]).all one = true := by rw [List.all_append, hone]; simp [hy]
  refine ⟨H.row e (cs ++ [y]), fun t ht => ?_, hH.row e hone2⟩
  have hr := hH.readN (b := b2) (u := 0) (lo := 0) (o := 0) (k := 1) hm (.row _ _ _ _) (Nat.le_refl _) (by simp)
  have hr2 : H.readN ⟨b2, 0, some 0⟩ 1 = some [y] := by simpa using hr
  have hsx : srcCells H 1 1 (.slice (some ⟨b2, 0, some 0⟩) 1 (2 * 1 + 1)) = some [y] := by simpa [srcCells] using hr
  have hsm : ∀ len, len ≤ 1000 → small 1 (len + 1) = true := fun len h => by simp only [small, Bool.and_eq_true]; exact ⟨⟨Nat.ble_eq_true_of_le (by omega), Nat.ble_eq_true_of_le (by omega)⟩, Nat.ble_eq_true_of_le (by omega)⟩
  rcases hS with ⟨rfl, rfl⟩ | ⟨b, o, u, rfl, h1⟩
  · have := hsm 0 (by omega)
    simp only [opA, ev_ok ht hs, ev_ok ht hx, appendA, srcLen, hsx, appWith, capOf, appNew, newAddr, hH.next]
    have hs0 : srcCells H 1 0 (.slice none 0 0) = some [] := rfl
    simp only [hs0]
    have e1 : Nat.ble (0 + 1) 0 = false := rfl
    simp only [e1, cond_false, this, List.all_nil, List.all_cons, hy, Bool.and_self, cond_true, List.length_nil, List.length_singleton, List.nil_append, Nat.zero_add, Nat.mul_one]
    rfl
  · obtain ⟨len, hlen⟩ : ∃ len, cs.length = len := ⟨_, rfl⟩
    have hrd := h1.readN' hH hlen
    have hsr : srcCells H 1 len (.slice (some ⟨b, o, some u⟩) len (2 * len + 1)) = some cs := by simpa [srcCells] using hrd
    have e1 : Nat.ble (len + 1) len = false := by
      cases hb : Nat.ble (len + 1) len with
      | false => rfl
      | true => have := Nat.le_of_ble_eq_true hb; omega
    have e2 : Nat.beq (cs.length + [y].length) ((len + 1) * 1) = true := by rw [hlen, Nat.mul_one]; exact Nat.beq_refl _
    have := hsm len (by omega)
    rw [hlen] at hs
    rw [hlen]
    simp only [opA, ev_ok ht hs, ev_ok ht hx, appendA, srcLen, hsx, appWith, capOf_known, e1, cond_false, hsr, appNew, this, hone, List.all_cons, List.all_nil, hy, Bool.and_self, e2, cond_true, newAddr, hH.next]
theorem WD.clipW {len : Nat} {x hi mx : Operand} {v : Value} {cs : List Value} {kb kc : IntKind} (hl : cs.length = len) (hg : gOK L gd) (hd : Nat.blt d nt = true) (hx : ev L x = some v) (hS : LstW M v cs) (h2 : ev L hi = some (.int kb (len : Int))) (h3 : ev L mx = some (.int kc (len : Int)))
    (k : ∀ v', ClipW M v' cs → WD C nt l rs ((d, v') :: L) D H K) : WD C nt (⟨i, some d, .slS x 1 none (some hi) (some mx), gd, []⟩ :: l) rs L D H K := by
  subst hl
  obtain ⟨v', h4, h5⟩ := OpV.clipW (C := C) (H := H) hx hS h2 h3
  exact WD.op hg hd h4 rfl (stands_nil _ _) (k v' h5)
theorem WD.initW {len : Nat} {x hi : Operand} {v y : Value} {cs : List Value} {kd : IntKind} (hl : cs.length = len) (hg : gOK L gd) (hd : Nat.blt d nt = true) (hx : ev L x = some v) (hS : LstW M v (cs ++ [y])) (hh : ev L hi = some (.int kd (len : Int)))
    (k : ∀ v', LstW M v' cs → WD C nt l rs ((d, v') :: L) D H K) : WD C nt (⟨i, some d, .slS x 1 none (some hi) none, gd, []⟩ :: l) rs L D H K := by
  subst hl
  obtain ⟨v', h4, h5⟩ := OpV.initW (C := C) (H := H) hx hS hh
  exact WD.op hg hd h4 rfl (stands_nil _ _) (k v' h5)
theorem WD.appFullW {e b2 : Nat} {s x : Operand} {v y : Value} {cs : List Value} (hg : gOK L gd) (hd : Nat.blt d nt = true) (hH : hasH M n H) (hs : ev L s = some v) (hS : ClipW M v cs) (hx : ev L x = some (.slice (some ⟨b2, 0, some 0⟩) 1 (2 * 1 + 1))) (hm : (b2, .row e 0 0 [y]) ∈ M) (hone : cs.all one = true) (hy : one y = true) (hl : cs.length ≤ 1000)
    (kk : ∀ H', hasH ((n, .row e 0 0 (cs ++ [y])) :: M) (n + 1) H' → stands H' lo rs = true ∧ WD C nt l rs ((d, .slice (some ⟨n, 0, some 0⟩) (cs.length + 1) (2 * 1)) :: L) D H' K) : WD C nt (⟨i, some d, .append e 1 s x, gd, lo⟩ :: l) rs L D H K := by
  obtain ⟨H', h4, h5⟩ := OpV.appFullW (C := C) hH hs hS hx hm hone hy hl
  obtain ⟨k1, k2⟩ := kk H' h5
  exact WD.op hg hd h4 rfl k1 k2
end
end Go.Abs
