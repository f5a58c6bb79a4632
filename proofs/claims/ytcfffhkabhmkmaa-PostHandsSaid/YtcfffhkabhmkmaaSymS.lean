/- Stacks: slices that are appended to and cut short. -/
import Derived.Test.YtcfffhkabhmkmaaSymR
import Derived.Test.YtcfffhkabhmkmaaJ1
import Derived.Test.YtcfffhkabhmkmaaSymK
namespace Go.Abs
set_option linter.unusedSectionVars false
variable [Globs]
open Go Go.Mth
set_option linter.unusedVariables false
set_option linter.unusedSimpArgs false
attribute [local irreducible] gOK WS WC WR WD Ends FS YS seqK blockK loopK midK retK rdK asgK rangeEnd sat

/-- A stack: nothing, or the first cells of a row of one's own. -/
inductive StkO (e : Nat) : Value → List Value → HL → Prop where
  | nil : StkO e (.slice none 0 0) [] []
  | mk {b u o len cp : Nat} {S cs : List Value} (hl : S.length = len) (hS : S = cs.take len) (hc : capR cp len cs.length) (hb : cs.length ≤ 10000) : StkO e (.slice (some ⟨b, o, some u⟩) len cp) S [(b, .row e u o cs)]

theorem capR.cap {cp len R : Nat} (h : capR cp len R) : cp = 2 * 1 ∨ ∃ r, cp = roomCode 1 r ∧ len ≤ r := by
  rcases h with ⟨h, _⟩ | ⟨h, h2⟩
  · exact .inl h
  · exact .inr ⟨R, h, h2⟩
theorem StkO.sl {e : Nat} {v : Value} {S : List Value} {Mx : HL} (h : StkO e v S Mx) (M : HL) : Sl (Mx ++ M) 1 v S := by
  cases h with
  | nil => exact .nil 0
  | mk hl hS hc hb =>
    rename_i b u o len cp cs
    have := hc.le
    refine .row (ch := .row e u o cs) (cs := cs) (.head _) (.row _ _ _ _) (Nat.le_refl _) (by omega) ?_ (by omega) (.inl hc.cap)
    rw [Nat.sub_self, List.drop_zero, hl]; exact hS.symm
theorem StkO.one_ {e : Nat} {v : Value} {S : List Value} {Mx : HL} (h : StkO e v S Mx) : one v = true := (h.sl []).one_
theorem Own.stk {e : Nat} {v : Value} {S : List Value} {Mx : HL} (h : OwnR e 1 v S Mx) (hb : S.length ≤ 10000) : StkO e v S Mx := by
  cases h with
  | mk hl => rw [Nat.mul_one] at hl; exact .mk hl (by rw [← hl, List.take_length]) (.inl ⟨rfl, hl⟩) hb
section
variable {C : CW} {nt : Nat} {L : Env} {D : List Nat} {H : Heap} {K : St → Prop} {M M' : HL} {n i d : Nat} {gd : Option (Tmp × Bool)} {lo' : List Nat} {l : List POp}
/-- A row that is full is turned, whatever is known of its room. -/
theorem app_room {e len : Nat} {a : Addr} {x : Value} {H : Heap} (h1 : srcLen x = some 1) : appendA e 1 H (.slice (some a) len (roomCode 1 len)) x = appendA e 1 H (.slice (some a) len (2 * 1)) x := by
  have hb : Nat.ble (len + 1) len = false := by
    cases hb : Nat.ble (len + 1) len with
    | false => rfl
    | true => have := Nat.le_of_ble_eq_true hb; omega
  have hb0 : Nat.beq 1 0 = false := rfl
  simp only [appendA, h1]
  cases srcCells H 1 1 x with
  | none => rfl
  | some new =>
    simp only [appWith, capOf_room a (show 1 ≤ 1000 by decide), capOf_open a (show 1 ≤ 1000 by decide), Nat.beq_refl, cond_true, hb, hb0, cond_false]
theorem stk_push {P : Program} {e n : Nat} {v x y : Value} {S : List Value} {Mx M : HL} {H : Heap} (hO : StkO e v S Mx) (hH : hasH (Mx ++ M) n H) (hk : srcLen x = some 1) (hx : srcCells H 1 1 x = some [y]) (hone : one y = true) (hsm : S.length ≤ 9000) :
    ∃ v' Mx' n' H', appendA e 1 H v x = .val v' H' ∧ StkO e v' (S ++ [y]) Mx' ∧ hasH (Mx' ++ M) n' H' ∧ n ≤ n' := by
  have h1 : [y].all one = true := by simp [hone]
  cases hO with
  | nil =>
    obtain ⟨v', Mx', n', H', q1, q2, q3, q4⟩ := append_ownR (P := P) (Own.nil (e := e) (sz := 1)) hH hk hx rfl (Nat.le_refl _) h1 (Nat.le_refl _) (by decide) (by simp)
    exact ⟨v', Mx', n', H', q1, Own.stk q2 (by simp), q3, q4⟩
  | mk hl hS hc hb =>
    rename_i b u o len cp cs
    have hle := hc.le
    by_cases hf : len = cs.length
    · have hSc : S = cs := by rw [hS, hf, List.take_length]
      subst hSc
      obtain ⟨v', Mx', n', H', q1, q2, q3, q4⟩ := append_ownR (P := P) (Own.row (e := e) (b := b) (u := u) (o := o) (len := len) (sz := 1) (cs := S) (by omega)) hH hk hx rfl (Nat.le_refl _) h1 (Nat.le_refl _) (by decide) (by simp; omega)
      refine ⟨v', Mx', n', H', ?_, Own.stk q2 (by simp; omega), q3, q4⟩
      rcases hc with ⟨rfl, _⟩ | ⟨rfl, _⟩
      · exact q1
      · rw [← hf, app_room hk]; exact q1
    · have hlt : len < cs.length := by omega
      rcases hc with ⟨_, h2⟩ | ⟨rfl, _⟩
      · omega
      · have hcs : cs.set len y = splice cs (o + len - o) [y] := by
          rw [show o + len - o = len by omega, splice_one hlt]
        have hH2 : hasH ((b, .row e u o cs) :: M) n H := hH
        obtain ⟨H', h5, h6⟩ := hH2.writeN (M' := (b, .row e u o (cs.set len y)) :: M) (l := [y]) .here h1 (Nat.le_add_right o len) (by simp; omega) hcs
        refine ⟨.slice (some ⟨b, o, some u⟩) (len + 1) (roomCode 1 cs.length), [(b, .row e u o (cs.set len y))], n, H', ?_, ?_, h6, Nat.le_refl _⟩
        · have hb2 : Nat.ble (len + 1) cs.length = true := Nat.ble_eq_true_of_le hlt
          have hb0 : Nat.beq 1 0 = false := rfl
          simp only [appendA, hk, hx, appWith, capOf_room _ (show 1 ≤ 1000 by decide), Nat.beq_refl, cond_true, hb0, hb2, cond_false, appIn, Addr.plus, Nat.mul_one, h5]
        · refine .mk (by simp [hl]) ?_ (.inr ⟨by rw [List.length_set], by rw [List.length_set]; omega⟩) (by rw [List.length_set]; exact hb)
          rw [hS]
          refine List.ext_getElem (by simp; omega) fun j hj1 hj2 => ?_
          simp only [List.length_append, List.length_take, List.length_singleton] at hj1
          rw [List.getElem_take, List.getElem_set]
          by_cases hj : j = len
          · subst hj
            rw [List.getElem_append_right (by simp; omega)]; simp
          · rw [List.getElem_append_left (by simp; omega), List.getElem_take, if_neg fun h => hj h.symm]
/-- One more on top. -/
theorem WR.push {j d2 e : Nat} {z : List Value} {s x : Operand} {v y : Value} {S : List Value} (F Mx T : HL) (hd : Nat.blt d nt = true) (hd2 : Nat.blt d2 nt = true)
    (hx : ev L x = some y) (hs : ev ((d, .slice (some ⟨n, 0, some 0⟩) 1 (2 * 1 + 1)) :: L) s = some v) (hO : StkO e v S Mx) (hH : hasH (F ++ (Mx ++ T)) n H)
    (hc : Instr.fill (fun j => some (j * 1, 1)) z.toArray [(0, y)] = some [y].toArray) (hone : one y = true) (hsm : S.length ≤ 9000)
    (kk : ∀ v' Mx' n' H', StkO e v' (S ++ [y]) Mx' → hasH (F ++ (Mx' ++ T)) n' H' → n ≤ n' → WR C nt l ((d2, v') :: (d, .slice (some ⟨n, 0, some 0⟩) 1 (2 * 1 + 1)) :: L) D H' K) :
    WR C nt (⟨i, some d, .bldS e 1 z 1 [(0, x)], none, []⟩ :: ⟨j, some d2, .append e 1 s (.tmp d), none, lo'⟩ :: l) L D H K := by
  have hH := hH.pull
  have h1 : [y].all one = true := by simp [hone]
  refine WR.bldS gN hd hH (vs := [(0, y)]) (by simp only [evp, hx]) hc h1 fun H1 hH1 => ?_
  have hx2 : srcCells H1 1 1 (.slice (some ⟨n, 0, some 0⟩) 1 (2 * 1 + 1)) = some [y] := by
    have := hH1.readN (b := n) (u := 0) (lo := 0) (o := 0) (k := 1 * 1) (ch := .row e 0 0 [y]) (cs := [y]) (by simp) (.row _ _ _ _) (Nat.le_refl _) (by simp)
    simp only [srcCells, this]; rfl
  obtain ⟨v', Mx', n', H', q1, q2, q3, q4⟩ := stk_push (P := C.c.P) hO hH1.tail rfl hx2 hone hsm
  have hy : ev ((d, .slice (some ⟨n, 0, some 0⟩) 1 (2 * 1 + 1)) :: L) (.tmp d) = some (.slice (some ⟨n, 0, some 0⟩) 1 (2 * 1 + 1)) := by simp [ev, Env.get]
  refine WR.op gN hd2 (H' := H') (v := v') (fun t ht => ?_) (kk v' Mx' n' H' q2 q3.push (by omega))
  simp only [opA, ev_ok ht hs, ev_ok ht hy, q1]
end
end Go.Abs
