/- Appending to a slice that is read again afterwards. -/
import Derived.Test.YtfnflkcjhefddaaSymX
namespace Go.Abs
set_option linter.unusedSectionVars false
variable [Globs]
open Go
set_option linter.unusedVariables false
theorem Upd.self {b : Nat} {ch : Ch} : ∀ {M : HL}, (b, ch) ∈ M → Upd M b ch ch M
  | [], h => by cases h
  | p :: M, h => by
    rcases List.mem_cons.1 h with h | h
    · subst h; exact .here
    · exact .there (Upd.self h)
section
variable {C : CW} {nt : Nat} {L : Env} {D : List Nat} {H : Heap} {K : St → Prop} {M M' : HL} {n i d : Nat} {gd : Option (Tmp × Bool)} {lo : List Nat} {l : List POp} {rs : List Rd}
theorem WD.bldS {e sz k : Nat} {z : List Value} {ps : List (Nat × Operand)} {vs : List (Nat × Value)} {cs : List Value} (hg : gOK L gd) (hd : Nat.blt d nt = true) (hH : hasH M n H) (hp : evp L ps = some vs)
    (hc : Instr.fill (fun j => some (j * sz, sz)) z.toArray vs = some cs.toArray) (hz : cs.all one = true)
    (hs : ∀ H', hasH ((n, .row e 0 0 cs) :: M) (n + 1) H' → stands H' lo rs = true)
    (kk : ∀ H', hasH ((n, .row e 0 0 cs) :: M) (n + 1) H' → WD C nt l rs ((d, .slice (some ⟨n, 0, some 0⟩) k (2 * k + 1)) :: L) D H' K) : WD C nt (⟨i, some d, .bldS e sz z k ps, gd, lo⟩ :: l) rs L D H K := by
  have h2 := hH.row e hz
  refine WD.op hg hd (H' := H.row e cs) (v := .slice (some ⟨n, 0, some 0⟩) k (2 * k + 1)) (fun t ht => ?_) rfl (hs _ h2) (kk _ h2)
  simp only [opA, evp_ok ht hp, hc, oBldS, newAddr, hH.next]
end
section
variable {C : CW} {nt : Nat} {L : Env} {D : List Nat} {H : Heap} {K : St → Prop} {M M' : HL} {n i d : Nat} {gd : Option (Tmp × Bool)} {lo : List Nat} {l : List POp} {rs : List Rd}
/-- Nothing appended to a slice without elements. -/
theorem WR.appNil {e b u o c : Nat} {s x : Operand} {cs : List Value} (hg : gOK L gd) (hd : Nat.blt d nt = true) (hs : ev L s = some (.slice (some ⟨b, o, some u⟩) 0 1)) (hy : ev L x = some (.slice none 0 c)) (hH : hasH M n H) (hm : (b, .row e u o cs) ∈ M)
    (kk : ∀ H', hasH M n H' → WR C nt l ((d, .slice (some ⟨b, o, some u⟩) 0 1) :: L) D H' K) : WR C nt (⟨i, some d, .append e 1 s x, gd, lo⟩ :: l) L D H K := by
  obtain ⟨H', h5, h6⟩ := hH.writeN (o := o) (l := []) (Upd.self hm) rfl (Nat.le_refl _) (by simp) (by simp [splice])
  refine WR.op hg hd (H' := H') (v := .slice (some ⟨b, o, some u⟩) 0 1) (fun t ht => ?_) (kk H' h6)
  have hcap : capOf (some ⟨b, o, some u⟩) 1 = .known 0 := rfl
  have hb : Nat.ble (0 + 0) 0 = true := rfl
  have hp : Addr.plus ⟨b, o, some u⟩ (0 * 1) = ⟨b, o, some u⟩ := rfl
  simp only [opA, ev_ok ht hs, ev_ok ht hy, appendA, srcLen, srcCells, appWith, hcap, hb, cond_true, appIn, hp, h5, Nat.add_zero]
/-- Nothing appended. -/
theorem WR.append0 {e sz : Nat} {s x : Operand} {v y : Value} {cs : List Value} {Mx : HL} (hg : gOK L gd) (hd : Nat.blt d nt = true) (hs : ev L s = some v) (hy : ev L x = some y) (hv : v = .slice none 0 0 ∨ OwnR e sz v cs Mx) (hk : srcLen y = some 0) (hx : srcCells H sz 0 y = some []) (hs2 : sz ≤ 1000)
    (kk : WR C nt l ((d, v) :: L) D H K) : WR C nt (⟨i, some d, .append e sz s x, gd, lo⟩ :: l) L D H K := by
  refine WR.op hg hd (H' := H) (v := v) (fun t ht => ?_) kk
  simp only [opA, ev_ok ht hs, ev_ok ht hy]
  rcases hv with rfl | h
  · have hb : Nat.ble (0 + 0) 0 = true := rfl
    have hq : Nat.beq 0 0 = true := rfl
    simp only [appendA, hk, hx, appWith, capOf, hb, cond_true, appIn, hq, Nat.add_zero]
  · cases h with
    | mk hl =>
      have hq : Nat.beq 0 0 = true := rfl
      simp only [appendA, hk, hx, appWith, capOf_open _ hs2, Nat.beq_refl, cond_true]
end
attribute [local irreducible] gOK WS WC WR WD Ends FS YS OpV seqK blockK loopK midK retK rdK asgK rangeEnd sat Cell
end Go.Abs
