/- Slices that have at least so much room: cut, appended to within it, cleared. -/
import Derived.Test.YtfnflkcjhefddaaJ1
namespace Go.Abs
set_option linter.unusedSectionVars false
variable [Globs]
open Go Go.Mth
set_option linter.unusedVariables false
set_option linter.unusedSimpArgs false
attribute [local irreducible] gOK WS WC WR WD Ends FS YS seqK blockK loopK midK retK rdK asgK rangeEnd sat

/-- The room that is sure. -/
def capR (cp len R : Nat) : Prop := (cp = 2 * 1 ∧ R = len) ∨ (cp = roomCode 1 R ∧ len ≤ R)
theorem capR.le {cp len R : Nat} (h : capR cp len R) : len ≤ R := by rcases h with ⟨_, h⟩ | ⟨_, h⟩ <;> omega

section
variable {C : CW} {nt : Nat} {L : Env} {D : List Nat} {H : Heap} {K : St → Prop} {M M' : HL} {n i d : Nat} {gd : Option (Tmp × Bool)} {lo' : List Nat} {l : List POp}
/-- What slicing a slice with room gives. -/
theorem cutR {a : Addr} {len cp R x y : Nat} (hc : capR cp len R) (hxy : x ≤ y) (hy : y ≤ len ∨ ∃ q, cp = roomCode 1 q ∧ y ≤ R) {lo hi : Option Value} (h1 : loOf lo = some x) (h2 : hiOf len hi = some y) :
    sliceA 1 (some a) len (capOf (some a) cp) lo hi none = cutPart 1 (some a) x y R := by
  rcases hc with ⟨rfl, rfl⟩ | ⟨rfl, hl⟩
  · have hyl : y ≤ R := by
      rcases hy with h | ⟨q, h, h'⟩
      · exact h
      · exact h'
    simp only [sliceA, h1, h2, Option.isSome_none, Bool.false_and, cond_false, capOf_open a (show 1 ≤ 1000 by decide), sliceTo]
    rw [cond_some (by simp [Nat.ble_eq, hyl, hxy])]
  · have hyr : y ≤ R := by
      rcases hy with h | ⟨_, _, h⟩
      · omega
      · exact h
    simp only [sliceA, h1, h2, Option.isSome_none, Bool.false_and, cond_false, capOf_room a (show 1 ≤ 1000 by decide), sliceTo]
    rw [cond_some (by simp [Nat.ble_eq, hyr, hxy])]

/-- Up to here. -/
theorem OpV.cutPre {x hi : Operand} {b o u len cp R m : Nat} {kd : IntKind} (hx : ev L x = some (.slice (some ⟨b, o, some u⟩) len cp)) (hc : capR cp len R) (hh : ev L hi = some (.int kd (m : Int))) (hm : m ≤ len) (hmR : m < R) :
    OpV C (.slS x 1 none (some hi) none) L H (.slice (some ⟨b, o, some u⟩) m (roomCode 1 R)) H := by
  intro t ht
  simp only [opA, ev_ok ht hx, Option.map_none, Option.map_some, ev_ok ht hh, oSlS]
  rw [cutR hc (Nat.zero_le m) (.inl hm) rfl rfl, cutPart_lt hmR (by decide)]
  simp [cutRoom, Addr.plus, asVal]
/-- One element more for a slice of one's own: it can be written then. -/
theorem WR.append1R {j d2 : Nat} {e sz : Nat} {z : List Value} {s x : Operand} {v y : Value} {cs new : List Value} {Mx T : HL} (hd : Nat.blt d nt = true) (hd2 : Nat.blt d2 nt = true)
    (hx : ev L x = some y) (hs : ev ((d, .slice (some ⟨n, 0, some 0⟩) 1 (2 * 1 + 1)) :: L) s = some v) (hO : Own e sz v cs Mx) (hH : hasH (Mx ++ T) n H)
    (hc : Instr.fill (fun j => some (j * sz, sz)) z.toArray [(0, y)] = some new.toArray) (hone : new.all one = true) (hl : new.length = sz) (hs1 : 1 ≤ sz) (hs2 : sz ≤ 1000) (hsm : cs.length + new.length ≤ 100000)
    (kk : ∀ v' Mx' n' H', OwnR e sz v' (cs ++ new) Mx' → hasH (Mx' ++ T) n' H' → n ≤ n' → WR C nt l ((d2, v') :: (d, .slice (some ⟨n, 0, some 0⟩) 1 (2 * 1 + 1)) :: L) D H' K) :
    WR C nt (⟨i, some d, .bldS e sz z 1 [(0, x)], none, []⟩ :: ⟨j, some d2, .append e sz s (.tmp d), none, lo'⟩ :: l) L D H K := by
  refine WR.bldS gN hd hH (vs := [(0, y)]) (by simp only [evp, hx]) hc hone fun H1 hH1 => ?_
  have hx2 : srcCells H1 sz 1 (.slice (some ⟨n, 0, some 0⟩) 1 (2 * 1 + 1)) = some new := by
    have := hH1.readN (b := n) (u := 0) (lo := 0) (o := 0) (k := 1 * sz) (ch := .row e 0 0 new) (cs := new) (by simp) (.row _ _ _ _) (Nat.le_refl _) (by omega)
    have hk : (new.drop (0 - 0)).take (1 * sz) = new := by rw [Nat.one_mul, ← hl]; simp
    simp only [srcCells, this, hk]
  obtain ⟨v', Mx', n', H', q1, q2, q3, q4⟩ := append_ownR (P := C.c.P) hO hH1.tail rfl hx2 (by omega) (Nat.le_refl _) hone hs1 hs2 hsm
  have hy : ev ((d, .slice (some ⟨n, 0, some 0⟩) 1 (2 * 1 + 1)) :: L) (.tmp d) = some (.slice (some ⟨n, 0, some 0⟩) 1 (2 * 1 + 1)) := by simp [ev, Env.get]
  refine WR.op gN hd2 (H' := H') (v := v') (fun t ht => ?_) (kk v' Mx' n' H' q2 q3 (by omega))
  simp only [opA, ev_ok ht hs, ev_ok ht hy, q1]

theorem WR.append1RF {j d2 : Nat} {e sz : Nat} {z : List Value} {s x : Operand} {v y : Value} {cs new : List Value} (F Mx T : HL) (hd : Nat.blt d nt = true) (hd2 : Nat.blt d2 nt = true)
    (hx : ev L x = some y) (hs : ev ((d, .slice (some ⟨n, 0, some 0⟩) 1 (2 * 1 + 1)) :: L) s = some v) (hO : Own e sz v cs Mx) (hH : hasH (F ++ (Mx ++ T)) n H)
    (hc : Instr.fill (fun j => some (j * sz, sz)) z.toArray [(0, y)] = some new.toArray) (hone : new.all one = true) (hl : new.length = sz) (hs1 : 1 ≤ sz) (hs2 : sz ≤ 1000) (hsm : cs.length + new.length ≤ 100000)
    (kk : ∀ v' Mx' n' H', OwnR e sz v' (cs ++ new) Mx' → hasH (F ++ (Mx' ++ T)) n' H' → n ≤ n' → WR C nt l ((d2, v') :: (d, .slice (some ⟨n, 0, some 0⟩) 1 (2 * 1 + 1)) :: L) D H' K) :
    WR C nt (⟨i, some d, .bldS e sz z 1 [(0, x)], none, []⟩ :: ⟨j, some d2, .append e sz s (.tmp d), none, lo'⟩ :: l) L D H K :=
  WR.append1R hd hd2 hx hs hO hH.pull hc hone hl hs1 hs2 hsm fun v' Mx' n' H' q1 q2 q3 => kk v' Mx' n' H' q1 q2.push q3
end
end Go.Abs
