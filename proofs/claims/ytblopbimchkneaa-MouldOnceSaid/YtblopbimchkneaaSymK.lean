/- Appending to a slice that is read again afterwards. -/
import Derived.Test.YtblopbimchkneaaSymX
namespace Go.Abs
set_option linter.unusedSectionVars false
variable [Globs]
open Go
set_option linter.unusedVariables false
theorem Upd.self {b : Nat} {ch : Ch} : ∀ {M : HL}, (b, ch) ∈ M → Upd M b ch ch M
  | [], h => by cases h
  | p :: M, h => by
    rcases List.mem_cons.1 h with h | h
    · subst h; exact .here
    · exact .there (Upd.self h)
theorem dropTo_of {u : Nat} : ∀ {vs : List Ver} {v : Ver}, findVer u vs = some v → ∃ l, dropTo u vs = v :: l
  | [], v, h => by cases h
  | w :: vs, v, h => by
    simp only [findVer, dropTo] at h ⊢
    cases hb : Nat.beq w.id u with
    | true => rw [hb] at h; simp only [cond_true, Option.some.injEq] at h ⊢; subst h; exact ⟨_, rfl⟩
    | false => rw [hb] at h; simp only [cond_false] at h ⊢; exact dropTo_of h
/-- One more behind a slice that stays as it is: what is behind it is read by the new slice's place. -/
theorem append_keep {M : HL} {n b e u o len : Nat} {H : Heap} {cs : List Value} (hH : hasH M n H) (hm : (b, .row e u o cs) ∈ M) (hlen : cs.length = len) {x y : Value} (hk : srcLen x = some 1) (hx : srcCells H 1 1 x = some [y]) (hone : one y = true) (hsm : len + 1 ≤ 100000) :
    ∃ tp H', appendA e 1 H (.slice (some ⟨b, o, some u⟩) len 2) x = .val (.slice (some ⟨b, o, some tp⟩) (len + 1) 2) H' ∧ hasH M n H' ∧ ∀ i w, (cs ++ [y])[i]? = some w → H'.read ⟨b, o + i, some tp⟩ = some w := by
  obtain ⟨ent, he, hok⟩ := hH.mem hm
  cases ent with
  | cells e' ro vs top c =>
    obtain ⟨rfl, rfl, ⟨l0, h2, h3⟩, h4, h5, htop⟩ := hok
    have hsm' : small 1 (len + 1) = true := by simp only [small, Bool.and_eq_true]; exact ⟨⟨Nat.ble_eq_true_of_le hsm, rfl⟩, rfl⟩
    have hq1 : Nat.beq (o + len * 1) (o + cs.length) = true := by rw [hlen, Nat.mul_one]; exact Nat.beq_refl _
    have hq3 : Nat.ble l0 o = true := Nat.ble_eq_true_of_le h3
    have hq6 : Nat.beq e' e' = true := Nat.beq_refl _
    have hall : [y].all one = true := by simp [hone]
    have hcap : capOf (some ⟨b, o, some u⟩) 2 = .open_ 1 := rfl
    refine ⟨top, H.upd b (.cells e' false (⟨top, o, o + cs.length + 1⟩ :: keepOld (o + cs.length) (dropTo u vs)) (top + 1) (c.putL (o + cs.length) [y])), ?_, ?_, ?_⟩
    · simp only [appendA, hk, hx, appWith, hcap, appOpen, he, h2, hq6, hq1, hq3, hall, hsm', Bool.and_self]
      rfl
    · refine hH.upd (Upd.self hm) ⟨rfl, rfl, ⟨l0, ?_, h3⟩, ?_, h5, Nat.lt_succ_of_lt htop⟩
      · obtain ⟨l, hl⟩ := dropTo_of h2
        have hb : Nat.beq top u = false := by cases hb : Nat.beq top u with | false => rfl | true => have := Nat.eq_of_beq_eq_true hb; omega
        have hb2 : Nat.ble (o + cs.length) (o + cs.length) = true := Nat.ble_eq_true_of_le (Nat.le_refl _)
        simp only [findVer, hb, cond_false, hl, keepOld, List.take_succ_cons, List.filter_cons, hb2, if_true, Nat.beq_refl, cond_true]
      · rw [readL_iff rfl]
        intro j hj
        rw [Tr.get_putL, if_neg (by simp; omega)]; exact (readL_iff rfl).1 h4 j hj
    · intro i w hi
      have hil : i < cs.length + 1 := by have := (List.getElem?_eq_some_iff.1 hi).1; simpa using this
      have t1 : Nat.ble o (o + i) = true := Nat.ble_eq_true_of_le (by omega)
      have t2 : Nat.blt (o + i) (o + cs.length + 1) = true := Nat.ble_eq_true_of_le (by omega)
      have hg : (H.upd b (.cells e' false (⟨top, o, o + cs.length + 1⟩ :: keepOld (o + cs.length) (dropTo u vs)) (top + 1) (c.putL (o + cs.length) [y]))).t.get b = some (.cells e' false (⟨top, o, o + cs.length + 1⟩ :: keepOld (o + cs.length) (dropTo u vs)) (top + 1) (c.putL (o + cs.length) [y])) := by rw [get_upd', if_pos rfl]
      simp only [Heap.read, hg, findVer, Nat.beq_refl, cond_true, t1, t2, Bool.and_self]
      rw [Tr.get_putL]
      by_cases hj2 : i < cs.length
      · rw [if_neg (by omega)]
        rw [List.getElem?_append_left hj2] at hi
        rw [← hi]; exact (readL_iff rfl).1 h4 i hj2
      · have : i = cs.length := by omega
        subst this
        rw [if_pos (by simp)]
        simpa using hi
  | _ => exact hok.elim
section
variable {C : CW} {nt : Nat} {L : Env} {D : List Nat} {H : Heap} {K : St → Prop} {M M' : HL} {n i d : Nat} {gd : Option (Tmp × Bool)} {lo : List Nat} {l : List POp} {rs : List Rd}
theorem WD.appendKeep {e b u o len : Nat} {s x : Operand} {x0 y : Value} {cs : List Value} (hg : gOK L gd) (hd : Nat.blt d nt = true) (hs : ev L s = some (.slice (some ⟨b, o, some u⟩) len 2)) (hx : ev L x = some x0)
    (hH : hasH M n H) (hm : (b, .row e u o cs) ∈ M) (hlen : cs.length = len) (hk : srcLen x0 = some 1) (hsc : srcCells H 1 1 x0 = some [y]) (hone : one y = true) (hsm : len + 1 ≤ 100000)
    (kk : ∀ tp H', hasH M n H' → (∀ i w, (cs ++ [y])[i]? = some w → H'.read ⟨b, o + i, some tp⟩ = some w) → stands H' lo rs = true ∧ WD C nt l rs ((d, .slice (some ⟨b, o, some tp⟩) (len + 1) 2) :: L) D H' K) :
    WD C nt (⟨i, some d, .append e 1 s x, gd, lo⟩ :: l) rs L D H K := by
  obtain ⟨tp, H', q1, q2, q3⟩ := append_keep hH hm hlen hk hsc hone hsm
  obtain ⟨k1, k2⟩ := kk tp H' q2 q3
  refine WD.op hg hd (H' := H') (v := .slice (some ⟨b, o, some tp⟩) (len + 1) 2) (fun t ht => ?_) rfl k1 k2
  simp only [opA, ev_ok ht hs, ev_ok ht hx, q1]
theorem WD.bldS {e sz k : Nat} {z : List Value} {ps : List (Nat × Operand)} {vs : List (Nat × Value)} {cs : List Value} (hg : gOK L gd) (hd : Nat.blt d nt = true) (hH : hasH M n H) (hp : evp L ps = some vs)
    (hc : Instr.fill (fun j => some (j * sz, sz)) z.toArray vs = some cs.toArray) (hz : cs.all one = true)
    (hs : ∀ H', hasH ((n, .row e 0 0 cs) :: M) (n + 1) H' → stands H' lo rs = true)
    (kk : ∀ H', hasH ((n, .row e 0 0 cs) :: M) (n + 1) H' → WD C nt l rs ((d, .slice (some ⟨n, 0, some 0⟩) k (2 * k + 1)) :: L) D H' K) : WD C nt (⟨i, some d, .bldS e sz z k ps, gd, lo⟩ :: l) rs L D H K := by
  have h2 := hH.row e hz
  refine WD.op hg hd (H' := H.row e cs) (v := .slice (some ⟨n, 0, some 0⟩) k (2 * k + 1)) (fun t ht => ?_) rfl (hs _ h2) (kk _ h2)
  simp only [opA, evp_ok ht hp, hc, oBldS, newAddr, hH.next]
end
section
variable {C : CW} {nt : Nat} {L : Env} {D : List Nat} {H : Heap} {K : St → Prop} {M M' : HL} {n i d : Nat} {gd : Option (Tmp × Bool)} {lo : List Nat} {l : List POp} {rs : List Rd}
end
attribute [local irreducible] gOK WS WC WR WD Ends FS YS OpV seqK blockK loopK midK retK rdK asgK rangeEnd sat Cell
end Go.Abs
