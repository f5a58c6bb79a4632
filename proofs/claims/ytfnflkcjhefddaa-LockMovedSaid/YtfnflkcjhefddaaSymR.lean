/- Slices that have at least so much room: cut, appended to within it, cleared. -/
import Derived.Test.YtfnflkcjhefddaaJ1
namespace Go.Abs
set_option linter.unusedSectionVars false
variable [Globs]
open Go Go.Mth
set_option linter.unusedVariables false
set_option linter.unusedSimpArgs false
attribute [local irreducible] gOK WS WC WR WD Ends FS YS seqK blockK loopK midK retK rdK asgK rangeEnd sat

/-- The room that is sure. -/
def capR (cp len R : Nat) : Prop := (cp = 2 * 1 ∧ R = len) ∨ (cp = roomCode 1 R ∧ len ≤ R)
theorem capR.le {cp len R : Nat} (h : capR cp len R) : len ≤ R := by rcases h with ⟨_, h⟩ | ⟨_, h⟩ <;> omega

section
variable {C : CW} {nt : Nat} {L : Env} {D : List Nat} {H : Heap} {K : St → Prop} {M M' : HL} {n i d : Nat} {gd : Option (Tmp × Bool)} {lo' : List Nat} {l : List POp}

theorem nat_of (kd : IntKind) (m : Nat) : natOf (.int kd (m : Int)) = some m := rfl

/-- What slicing a slice with room gives. -/
theorem cutR {a : Addr} {len cp R x y : Nat} (hc : capR cp len R) (hxy : x ≤ y) (hy : y ≤ len ∨ ∃ q, cp = roomCode 1 q ∧ y ≤ R) {lo hi : Option Value} (h1 : loOf lo = some x) (h2 : hiOf len hi = some y) :
    sliceA 1 (some a) len (capOf (some a) cp) lo hi none = cutPart 1 (some a) x y R := by
  rcases hc with ⟨rfl, rfl⟩ | ⟨rfl, hl⟩
  · have hyl : y ≤ R := by
      rcases hy with h | ⟨q, h, h'⟩
      · exact h
      · exact h'
    simp only [sliceA, h1, h2, Option.isSome_none, Bool.false_and, cond_false, capOf_open a (show 1 ≤ 1000 by decide), sliceTo]
    rw [cond_some (by simp [Nat.ble_eq, hyl, hxy])]
  · have hyr : y ≤ R := by
      rcases hy with h | ⟨_, _, h⟩
      · omega
      · exact h
    simp only [sliceA, h1, h2, Option.isSome_none, Bool.false_and, cond_false, capOf_room a (show 1 ≤ 1000 by decide), sliceTo]
    rw [cond_some (by simp [Nat.ble_eq, hyr, hxy])]

/-- Up to here. -/
theorem OpV.cutPre {x hi : Operand} {b o u len cp R m : Nat} {kd : IntKind} (hx : ev L x = some (.slice (some ⟨b, o, some u⟩) len cp)) (hc : capR cp len R) (hh : ev L hi = some (.int kd (m : Int))) (hm : m ≤ len) (hmR : m < R) :
    OpV C (.slS x 1 none (some hi) none) L H (.slice (some ⟨b, o, some u⟩) m (roomCode 1 R)) H := by
  intro t ht
  simp only [opA, ev_ok ht hx, Option.map_none, Option.map_some, ev_ok ht hh, oSlS]
  rw [cutR hc (Nat.zero_le m) (.inl hm) rfl rfl, cutPart_lt hmR (by decide)]
  simp [cutRoom, Addr.plus, asVal]
/-- From here on. -/
theorem OpV.cutSuf {x lo : Operand} {b o u len cp R m : Nat} {kd : IntKind} (hx : ev L x = some (.slice (some ⟨b, o, some u⟩) len cp)) (hc : capR cp len R) (hh : ev L lo = some (.int kd (m : Int))) (hm : m ≤ len) :
    ∃ cp', OpV C (.slS x 1 (some lo) none none) L H (.slice (some ⟨b, o + m, some u⟩) (len - m) cp') H := by
  by_cases hR : len < R
  · refine ⟨roomCode 1 (R - m), fun t ht => ?_⟩
    simp only [opA, ev_ok ht hx, Option.map_none, Option.map_some, ev_ok ht hh, oSlS]
    rw [cutR (lo := some (.int kd (m : Int))) (hi := none) hc hm (.inl (Nat.le_refl _)) rfl rfl, cutPart_lt hR (by decide)]
    simp [cutRoom, Addr.plus, asVal]
  · refine ⟨2 * 1, fun t ht => ?_⟩
    simp only [opA, ev_ok ht hx, Option.map_none, Option.map_some, ev_ok ht hh, oSlS]
    rw [cutR (lo := some (.int kd (m : Int))) (hi := none) hc hm (.inl (Nat.le_refl _)) rfl rfl, cutPart_all (by omega)]
    simp [cutOpen, Addr.plus, asVal]
/-- Between, beyond the length too. -/
theorem OpV.cutOver {x lo hi : Operand} {b o u len R m k : Nat} {kd kd2 : IntKind} (hx : ev L x = some (.slice (some ⟨b, o, some u⟩) len (roomCode 1 R))) (hl : len ≤ R) (hh : ev L lo = some (.int kd (m : Int))) (hk : ev L hi = some (.int kd2 (k : Int))) (hm : m ≤ k) (hkR : k ≤ R) :
    ∃ cp', OpV C (.slS x 1 (some lo) (some hi) none) L H (.slice (some ⟨b, o + m, some u⟩) (k - m) cp') H := by
  have hc : capR (roomCode 1 R) len R := .inr ⟨rfl, hl⟩
  by_cases hR : k < R
  · refine ⟨roomCode 1 (R - m), fun t ht => ?_⟩
    simp only [opA, ev_ok ht hx, Option.map_none, Option.map_some, ev_ok ht hh, ev_ok ht hk, oSlS]
    rw [cutR (lo := some (.int kd (m : Int))) (hi := some (.int kd2 (k : Int))) hc hm (.inr ⟨R, rfl, hkR⟩) rfl rfl, cutPart_lt hR (by decide)]
    simp [cutRoom, Addr.plus, asVal]
  · refine ⟨2 * 1, fun t ht => ?_⟩
    simp only [opA, ev_ok ht hx, Option.map_none, Option.map_some, ev_ok ht hh, ev_ok ht hk, oSlS]
    rw [cutR (lo := some (.int kd (m : Int))) (hi := some (.int kd2 (k : Int))) hc hm (.inr ⟨R, rfl, hkR⟩) rfl rfl, cutPart_all (by omega)]
    simp [cutOpen, Addr.plus, asVal]
/-- With three numbers: whatever comes of it. -/
theorem OpV.cutMax {x lo hi mx : Operand} {b o u len cp R m k q : Nat} {kd kd2 kd3 : IntKind} (hx : ev L x = some (.slice (some ⟨b, o, some u⟩) len cp)) (hc : capR cp len R) (hlo : ev L lo = some (.int kd (m : Int))) (hhi : ev L hi = some (.int kd2 (k : Int))) (hmx : ev L mx = some (.int kd3 (q : Int)))
    (h1 : m ≤ k) (h2 : k ≤ q) (h3 : q ≤ len) (h4 : 1 ≤ len) : ∃ v, OpV C (.slS x 1 (some lo) (some hi) (some mx)) L H v H := by
  have hb : Nat.beq len 0 = false := by cases hb : Nat.beq len 0 with | false => rfl | true => have := Nat.eq_of_beq_eq_true hb; omega
  rcases hc with ⟨rfl, rfl⟩ | ⟨rfl, hl⟩
  · refine ⟨.slice (some (bif Nat.beq q m then ⟨b, o, some u⟩ else Addr.plus ⟨b, o, some u⟩ (m * 1))) (k - m) (2 * (q - m) + 1), fun t ht => ?_⟩
    simp only [opA, ev_ok ht hx, Option.map_some, ev_ok ht hlo, ev_ok ht hhi, ev_ok ht hmx, oSlS, sliceA, loOf, hiOf, nat_of, Option.isSome_some, Option.isNone_some, Bool.and_false, cond_false, capOf_open _ (show 1 ≤ 1000 by decide), sliceTo]
    rw [cond_some (by simp [Nat.ble_eq, h1, h2, h3])]
    simp only [cutOpenMax, hb, cond_false, cutKnown, asVal]
  · refine ⟨.slice (some (bif Nat.beq q m then ⟨b, o, some u⟩ else Addr.plus ⟨b, o, some u⟩ (m * 1))) (k - m) (2 * (q - m) + 1), fun t ht => ?_⟩
    simp only [opA, ev_ok ht hx, Option.map_some, ev_ok ht hlo, ev_ok ht hhi, ev_ok ht hmx, oSlS, sliceA, loOf, hiOf, nat_of, Option.isSome_some, Option.isNone_some, Bool.and_false, cond_false, capOf_room _ (show 1 ≤ 1000 by decide), sliceTo]
    rw [cond_some (by simp [Nat.ble_eq, h1, h2]; omega)]
    simp only [cutKnown, asVal]

/-- Appended within the room: the numbers of a row move. -/
theorem WR.appendR {e : TypeId} {s x : Operand} {b u o len R j k cp' : Nat} {ys : List Int} (hg : gOK L gd) (hd : Nat.blt d nt = true) (hs : ev L s = some (.slice (some ⟨b, o, some u⟩) len (roomCode 1 R))) (hx : ev L x = some (.slice (some ⟨b, o + j, some u⟩) k cp'))
    (hH : hasH M n H) (hu : Upd M b (.row e u o (ints ys)) (.row e u o (ints (ys.take len ++ (ys.drop j).take k ++ ys.drop (len + k)))) M') (hj : j + k ≤ ys.length) (hlk : len + k ≤ R) (hly : len + k ≤ ys.length)
    (kk : ∀ H', hasH M' n H' → WR C nt l ((d, .slice (some ⟨b, o, some u⟩) (len + k) (roomCode 1 R)) :: L) D H' K) : WR C nt (⟨i, some d, .append e 1 s x, gd, lo'⟩ :: l) L D H K := by
  have hread : H.readN ⟨b, o + j, some u⟩ k = some (ints ((ys.drop j).take k)) := by
    rw [hH.readN (k := k) hu.mem (.row _ _ _ _) (Nat.le_add_right _ _) (by simp; omega)]
    simp [List.map_drop, List.map_take]
  have hlen : ((ys.drop j).take k).length = k := by simp; omega
  have hcs : ints (ys.take len ++ (ys.drop j).take k ++ ys.drop (len + k)) = splice (ints ys) (o + len - o) (ints ((ys.drop j).take k)) := by
    rw [show o + len - o = len by omega]
    unfold splice
    rw [List.length_map, hlen]
    simp only [ints, List.map_append, List.map_take, List.map_drop]
  obtain ⟨H', h5, h6⟩ := hH.writeN (l := ints ((ys.drop j).take k)) hu (by rw [List.all_eq_true]; intro q hq; obtain ⟨z, _, rfl⟩ := List.mem_map.1 hq; rfl) (Nat.le_add_right o len) (by simp; omega) hcs
  by_cases hk0 : k = 0
  · subst hk0
    have hsame : ys.take len ++ (ys.drop j).take 0 ++ ys.drop (len + 0) = ys := by simp
    rw [hsame] at hu
    have hMM : M' = M := hu.same rfl
    subst hMM
    refine WR.op hg hd (v := .slice (some ⟨b, o, some u⟩) (len + 0) (roomCode 1 R)) (fun t ht => ?_) (kk H hH)
    simp only [opA, ev_ok ht hs, ev_ok ht hx, appendA, srcLen, srcCells, Nat.zero_mul, Nat.mul_one, hread, appWith, capOf_room _ (show 1 ≤ 1000 by decide), Nat.beq_refl, cond_true]
    rfl
  · refine WR.op hg hd (v := .slice (some ⟨b, o, some u⟩) (len + k) (roomCode 1 R)) (fun t ht => ?_) (kk H' h6)
    have hb : Nat.beq k 0 = false := by cases hb : Nat.beq k 0 with | false => rfl | true => exact absurd (Nat.eq_of_beq_eq_true hb) hk0
    have hb2 : Nat.ble (len + k) R = true := Nat.ble_eq_true_of_le hlk
    simp only [opA, ev_ok ht hs, ev_ok ht hx, appendA, srcLen, srcCells, Nat.mul_one, hread, appWith, capOf_room _ (show 1 ≤ 1000 by decide), Nat.beq_refl, cond_true, hb, hb2, cond_false, appIn, Addr.plus, h5]

/-- Cleared. -/
theorem WR.clrI {e : TypeId} {x : Operand} {b u o m k cp : Nat} {ys : List Int} (hg : gOK L gd) (hx : ev L x = some (.slice (some ⟨b, o + m, some u⟩) k cp)) (hH : hasH M n H)
    (hu : Upd M b (.row e u o (ints ys)) (.row e u o (ints (ys.take m ++ List.replicate k 0 ++ ys.drop (m + k)))) M') (hmk : m + k ≤ ys.length) (hk : 1 ≤ k)
    (kk : ∀ H', hasH M' n H' → WR C nt l L D H' K) : WR C nt (⟨i, none, .clr 1 [.int .i64 0] x, gd, lo'⟩ :: l) L D H K := by
  have hfl : (List.replicate k [Value.int .i64 0]).flatten = ints (List.replicate k 0) := by
    clear hx hu hmk hk kk
    induction k with
    | zero => rfl
    | succ k ih => simp only [List.replicate_succ, List.flatten_cons, ih, ints, List.map_cons]; rfl
  have hcs : ints (ys.take m ++ List.replicate k 0 ++ ys.drop (m + k)) = splice (ints ys) (o + m - o) (ints (List.replicate k 0)) := by
    rw [show o + m - o = m by omega]
    unfold splice
    rw [List.length_map, List.length_replicate]
    simp only [ints, List.map_append, List.map_take, List.map_drop]
  obtain ⟨H', h5, h6⟩ := hH.writeN (l := ints (List.replicate k 0)) hu (by rw [List.all_eq_true]; intro q hq; obtain ⟨z, _, rfl⟩ := List.mem_map.1 hq; rfl) (Nat.le_add_right o m) (by simp; omega) hcs
  have hb : Nat.beq k 0 = false := by cases hb : Nat.beq k 0 with | false => rfl | true => have := Nat.eq_of_beq_eq_true hb; omega
  refine WR.op0 hg (v := undef) (H' := H') (fun t ht => ?_) (kk H' h6)
  simp only [opA, ev_ok ht hx, oClr, hb, cond_false, hfl, h5, asSkip]

theorem WR.cutMax {x lo hi mx : Operand} {b o u len cp R m k q : Nat} {kd kd2 kd3 : IntKind} (hg : gOK L gd) (hd : Nat.blt d nt = true) (hx : ev L x = some (.slice (some ⟨b, o, some u⟩) len cp)) (hc : capR cp len R) (hlo : ev L lo = some (.int kd (m : Int))) (hhi : ev L hi = some (.int kd2 (k : Int))) (hmx : ev L mx = some (.int kd3 (q : Int)))
    (h1 : m ≤ k) (h2 : k ≤ q) (h3 : q ≤ len) (h4 : 1 ≤ len) (kk : ∀ v, WR C nt l ((d, v) :: L) D H K) : WR C nt (⟨i, some d, .slS x 1 (some lo) (some hi) (some mx), gd, lo'⟩ :: l) L D H K := by
  obtain ⟨v, hv⟩ := OpV.cutMax (C := C) (H := H) hx hc hlo hhi hmx h1 h2 h3 h4
  exact WR.op hg hd hv (kk v)
theorem WR.cutSuf {x lo : Operand} {b o u len cp R m : Nat} {kd : IntKind} (hg : gOK L gd) (hd : Nat.blt d nt = true) (hx : ev L x = some (.slice (some ⟨b, o, some u⟩) len cp)) (hc : capR cp len R) (hh : ev L lo = some (.int kd (m : Int))) (hm : m ≤ len)
    (kk : ∀ cp', WR C nt l ((d, .slice (some ⟨b, o + m, some u⟩) (len - m) cp') :: L) D H K) : WR C nt (⟨i, some d, .slS x 1 (some lo) none none, gd, lo'⟩ :: l) L D H K := by
  obtain ⟨cp', hv⟩ := OpV.cutSuf (C := C) (H := H) hx hc hh hm
  exact WR.op hg hd hv (kk cp')
theorem WR.cutOver {x lo hi : Operand} {b o u len R m k : Nat} {kd kd2 : IntKind} (hg : gOK L gd) (hd : Nat.blt d nt = true) (hx : ev L x = some (.slice (some ⟨b, o, some u⟩) len (roomCode 1 R))) (hl : len ≤ R) (hh : ev L lo = some (.int kd (m : Int))) (hk : ev L hi = some (.int kd2 (k : Int))) (hm : m ≤ k) (hkR : k ≤ R)
    (kk : ∀ cp', WR C nt l ((d, .slice (some ⟨b, o + m, some u⟩) (k - m) cp') :: L) D H K) : WR C nt (⟨i, some d, .slS x 1 (some lo) (some hi) none, gd, lo'⟩ :: l) L D H K := by
  obtain ⟨cp', hv⟩ := OpV.cutOver (C := C) (H := H) hx hl hh hk hm hkR
  exact WR.op hg hd hv (kk cp')

/-- One element more for a slice of one's own: it can be written then. -/
theorem WR.append1R {j d2 : Nat} {e sz : Nat} {z : List Value} {s x : Operand} {v y : Value} {cs new : List Value} {Mx T : HL} (hd : Nat.blt d nt = true) (hd2 : Nat.blt d2 nt = true)
    (hx : ev L x = some y) (hs : ev ((d, .slice (some ⟨n, 0, some 0⟩) 1 (2 * 1 + 1)) :: L) s = some v) (hO : Own e sz v cs Mx) (hH : hasH (Mx ++ T) n H)
    (hc : Instr.fill (fun j => some (j * sz, sz)) z.toArray [(0, y)] = some new.toArray) (hone : new.all one = true) (hl : new.length = sz) (hs1 : 1 ≤ sz) (hs2 : sz ≤ 1000) (hsm : cs.length + new.length ≤ 100000)
    (kk : ∀ v' Mx' n' H', OwnR e sz v' (cs ++ new) Mx' → hasH (Mx' ++ T) n' H' → n ≤ n' → WR C nt l ((d2, v') :: (d, .slice (some ⟨n, 0, some 0⟩) 1 (2 * 1 + 1)) :: L) D H' K) :
    WR C nt (⟨i, some d, .bldS e sz z 1 [(0, x)], none, []⟩ :: ⟨j, some d2, .append e sz s (.tmp d), none, lo'⟩ :: l) L D H K := by
  refine WR.bldS gN hd hH (vs := [(0, y)]) (by simp only [evp, hx]) hc hone fun H1 hH1 => ?_
  have hx2 : srcCells H1 sz 1 (.slice (some ⟨n, 0, some 0⟩) 1 (2 * 1 + 1)) = some new := by
    have := hH1.readN (b := n) (u := 0) (lo := 0) (o := 0) (k := 1 * sz) (ch := .row e 0 0 new) (cs := new) (by simp) (.row _ _ _ _) (Nat.le_refl _) (by omega)
    have hk : (new.drop (0 - 0)).take (1 * sz) = new := by rw [Nat.one_mul, ← hl]; simp
    simp only [srcCells, this, hk]
  obtain ⟨v', Mx', n', H', q1, q2, q3, q4⟩ := append_ownR (P := C.c.P) hO hH1.tail rfl hx2 (by omega) (Nat.le_refl _) hone hs1 hs2 hsm
  have hy : ev ((d, .slice (some ⟨n, 0, some 0⟩) 1 (2 * 1 + 1)) :: L) (.tmp d) = some (.slice (some ⟨n, 0, some 0⟩) 1 (2 * 1 + 1)) := by simp [ev, Env.get]
  refine WR.op gN hd2 (H' := H') (v := v') (fun t ht => ?_) (kk v' Mx' n' H' q2 q3 (by omega))
  simp only [opA, ev_ok ht hs, ev_ok ht hy, q1]

theorem WR.append1RF {j d2 : Nat} {e sz : Nat} {z : List Value} {s x : Operand} {v y : Value} {cs new : List Value} (F Mx T : HL) (hd : Nat.blt d nt = true) (hd2 : Nat.blt d2 nt = true)
    (hx : ev L x = some y) (hs : ev ((d, .slice (some ⟨n, 0, some 0⟩) 1 (2 * 1 + 1)) :: L) s = some v) (hO : Own e sz v cs Mx) (hH : hasH (F ++ (Mx ++ T)) n H)
    (hc : Instr.fill (fun j => some (j * sz, sz)) z.toArray [(0, y)] = some new.toArray) (hone : new.all one = true) (hl : new.length = sz) (hs1 : 1 ≤ sz) (hs2 : sz ≤ 1000) (hsm : cs.length + new.length ≤ 100000)
    (kk : ∀ v' Mx' n' H', OwnR e sz v' (cs ++ new) Mx' → hasH (F ++ (Mx' ++ T)) n' H' → n ≤ n' → WR C nt l ((d2, v') :: (d, .slice (some ⟨n, 0, some 0⟩) 1 (2 * 1 + 1)) :: L) D H' K) :
    WR C nt (⟨i, some d, .bldS e sz z 1 [(0, x)], none, []⟩ :: ⟨j, some d2, .append e sz s (.tmp d), none, lo'⟩ :: l) L D H K :=
  WR.append1R hd hd2 hx hs hO hH.pull hc hone hl hs1 hs2 hsm fun v' Mx' n' H' q1 q2 q3 => kk v' Mx' n' H' q1 q2.push q3
end
end Go.Abs
