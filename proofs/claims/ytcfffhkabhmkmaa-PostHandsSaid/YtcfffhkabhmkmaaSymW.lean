/- Slices with a room that is known: they are appended to, and cut, where they are. -/
import Derived.Test.YtcfffhkabhmkmaaSymS
import Derived.Test.YtcfffhkabhmkmaaSymZ
import Derived.Test.YtcfffhkabhmkmaaSymT
namespace Go.Abs
set_option linter.unusedSectionVars false
variable [Globs]
open Go Go.Mth
set_option linter.unusedVariables false
set_option linter.unusedSimpArgs false
attribute [local irreducible] gOK WS WC WR WD Ends FS YS seqK blockK loopK midK retK rdK asgK rangeEnd sat
section
variable {C : CW} {nt : Nat} {L : Env} {D : List Nat} {H : Heap} {K : St → Prop} {M M' : HL} {n i d : Nat} {gd : Option (Tmp × Bool)} {lo' : List Nat} {l : List POp}
end
theorem slK {M : HL} {b e len c : Nat} {ys : List Int} {l : List Nat} (hm : (b, Ch.row e 0 0 (ints ys)) ∈ M) (hl : l.length = len) (hc : len ≤ c) (hy : ys.take len = l.map fun (x : Nat) => (x : Int)) : Sl M 1 (.slice (some ⟨b, 0, some 0⟩) len (2 * c + 1)) (nodes l) := by
  have hly : len ≤ ys.length := by have := congrArg List.length hy; simp at this; omega
  refine .row hm (.row _ _ _ _) (Nat.le_refl _) (by simp [hl]) ?_ (by simp; omega) (.inr ⟨c, rfl, hc⟩)
  rw [nodesI, ← hy]
  simp [ints, List.map_take]
/-- A list in memory, with a room that is known. -/
def KL (M : HL) (u : Value) (z : List Nat) : Prop := ∃ (b e c : Nat) (ys : List Int), u = .slice (some ⟨b, 0, some 0⟩) z.length (2 * c + 1) ∧ (b, Ch.row e 0 0 (ints ys)) ∈ M ∧ z.length ≤ c ∧ ys.take z.length = z.map fun (x : Nat) => (x : Int)
theorem KL.mono {M M' : HL} {u : Value} {z : List Nat} (h : KL M u z) (k : ∀ q ∈ M, q ∈ M') : KL M' u z := by
  obtain ⟨b, e, c, ys, h1, h2, h3⟩ := h
  exact ⟨b, e, c, ys, h1, k _ h2, h3⟩
theorem KL.sl {M : HL} {u : Value} {z : List Nat} (h : KL M u z) : Sl M 1 u (nodes z) := by
  obtain ⟨b, e, c, ys, rfl, h2, h3, h4⟩ := h
  exact slK h2 rfl h3 h4
theorem KL.src {M : HL} {n : Nat} {H : Heap} {u : Value} {z : List Nat} (h : KL M u z) (hH : hasH M n H) : srcLen u = some z.length ∧ srcCells H 1 z.length u = some (nodes z) := by
  obtain ⟨b, e, c, ys, rfl, h2, h3, h4⟩ := h
  have hly : z.length ≤ ys.length := by have := congrArg List.length h4; simp at this; omega
  have := hH.readN (b := b) (u := 0) (lo := 0) (o := 0) (k := z.length * 1) h2 (.row _ _ _ _) (Nat.le_refl _) (by simp; omega)
  refine ⟨rfl, ?_⟩
  show H.readN ⟨b, 0, some 0⟩ (z.length * 1) = _
  rw [this, nodesI, ← h4]
  simp [ints, List.map_take]
section
variable {C : CW} {nt : Nat} {L : Env} {D : List Nat} {H H' : Heap} {K : St → Prop} {M M' : HL} {n i d : Nat} {gd : Option (Tmp × Bool)} {lo : List Nat} {l : List POp} {rs : List Rd}
theorem WD.append {e sz : Nat} {s x : Operand} {v y : Value} {cs : List Value} {Mx M0 : HL} {k : Nat} {new : List Value} (hg : gOK L gd) (hd : Nat.blt d nt = true) (hs : ev L s = some v) (hy : ev L x = some y)
    (hO : Own e sz v cs Mx) (hH : hasH M n H) (hM : M'.Sublist M) (hp : M'.Perm (Mx ++ M0)) (hk : srcLen y = some k) (hx : srcCells H sz k y = some new) (hl : new.length = k * sz) (h1 : 1 ≤ k) (hone : new.all one = true) (hs1 : 1 ≤ sz) (hs2 : sz ≤ 1000)
    (hsm : cs.length + new.length ≤ 100000) (kk : ∀ v' Mx' n' H', OwnR e sz v' (cs ++ new) Mx' → hasH (Mx' ++ M0) n' H' → n ≤ n' → stands H' lo rs = true ∧ WD C nt l rs ((d, v') :: L) D H' K) :
    WD C nt (⟨i, some d, .append e sz s x, gd, lo⟩ :: l) rs L D H K := by
  obtain ⟨v', Mx', n', H', q1, q2, q3, q4⟩ := append_ownR (P := C.c.P) hO ((hH.sub hM).perm hp) hk hx hl h1 hone hs1 hs2 hsm
  obtain ⟨k1, k2⟩ := kk v' Mx' n' H' q2 q3 q4
  refine WD.op hg hd (H' := H') (v := v') (fun t ht => ?_) rfl k1 k2
  simp only [opA, ev_ok ht hs, ev_ok ht hy, q1]
/-- One element more, what was read before may be read after. -/
theorem WD.append1F {j d2 : Nat} {e : Nat} {z : List Value} {s x : Operand} {lo2 : List Nat} {v y : Value} {cs : List Value} {new : Value} (F Mx T : HL) (hd : Nat.blt d nt = true) (hd2 : Nat.blt d2 nt = true)
    (hx : ev L x = some y) (hs : ev ((d, .slice (some ⟨n, 0, some 0⟩) 1 (2 * 1 + 1)) :: L) s = some v) (hO : Own e 1 v cs Mx) (hH : hasH (F ++ (Mx ++ T)) n H)
    (hc : Instr.fill (fun j => some (j * 1, 1)) z.toArray [(0, y)] = some [new].toArray) (hone : one new = true) (hsm : cs.length + 1 ≤ 100000)
    (hst : ∀ H', hasH ((n, .row e 0 0 [new]) :: (F ++ (Mx ++ T))) (n + 1) H' → stands H' lo rs = true)
    (kk : ∀ v' Mx' n' H', OwnR e 1 v' (cs ++ [new]) Mx' → hasH (F ++ (Mx' ++ T)) n' H' → n ≤ n' → stands H' lo2 rs = true ∧ WD C nt l rs ((d2, v') :: (d, .slice (some ⟨n, 0, some 0⟩) 1 (2 * 1 + 1)) :: L) D H' K) :
    WD C nt (⟨i, some d, .bldS e 1 z 1 [(0, x)], none, lo⟩ :: ⟨j, some d2, .append e 1 s (.tmp d), none, lo2⟩ :: l) rs L D H K := by
  refine WD.bldS gN hd hH (vs := [(0, y)]) (by simp only [evp, hx]) hc (by simp [hone]) hst fun H1 hH1 => ?_
  have hx2 : srcCells H1 1 1 (.slice (some ⟨n, 0, some 0⟩) 1 (2 * 1 + 1)) = some [new] := by
    have := hH1.readN (b := n) (u := 0) (lo := 0) (o := 0) (k := 1 * 1) (ch := .row e 0 0 [new]) (cs := [new]) (by simp) (.row _ _ _ _) (Nat.le_refl _) (by simp)
    simpa [srcCells] using this
  have hy : ev ((d, .slice (some ⟨n, 0, some 0⟩) 1 (2 * 1 + 1)) :: L) (.tmp d) = some (.slice (some ⟨n, 0, some 0⟩) 1 (2 * 1 + 1)) := by simp [ev, Env.get]
  refine WD.append gN hd2 hs hy hO hH1 (M' := F ++ (Mx ++ T)) (List.sublist_cons_self _ _) (M0 := F ++ T) (List.perm_append_comm_assoc F Mx T) rfl hx2 (by simp) (Nat.le_refl _) (by simp [hone]) (Nat.le_refl _) (by omega) (by simpa using hsm) fun v' Mx' n' H' q1 q2 q3 => ?_
  exact kk v' Mx' n' H' q1 (q2.perm (List.perm_append_comm_assoc Mx' F T)) (by omega)
end
end Go.Abs
