/- Lists that are copied behind an empty one. -/
import Derived.Test.YtfnflkcjhefddaaSymL
namespace Go.Abs
set_option linter.unusedSectionVars false
variable [Globs]
open Go Go.Mth
set_option linter.unusedVariables false
set_option linter.unusedSimpArgs false
attribute [local irreducible] gOK WS WC WR WD Ends FS YS seqK blockK loopK midK retK rdK asgK rangeEnd sat
section
variable {C : CW} {nt : Nat} {L : Env} {D : List Nat} {H : Heap} {K : St → Prop} {M M' : HL} {n i d : Nat} {gd : Option (Tmp × Bool)} {lo : List Nat} {l : List POp}
/-- Numbers in a row of one's own; none: an empty row. -/
def OwnZ (e : Nat) (v : Value) (xs : List Nat) (Mx : HL) : Prop := (xs = [] ∧ ∃ b, v = .slice (some ⟨b, 0, some 0⟩) 0 (2 * 0 + 1) ∧ Mx = [(b, Ch.row e 0 0 [])]) ∨ (xs ≠ [] ∧ OwnR e 1 v (nodes xs) Mx)
theorem OwnZ.sl {e : Nat} {v : Value} {xs : List Nat} {Mx T : HL} (h : OwnZ e v xs Mx) (k : ∀ q ∈ Mx, q ∈ T) : Sl T 1 v (nodes xs) := by
  rcases h with ⟨rfl, b, rfl, rfl⟩ | ⟨_, h⟩
  · refine .row (lo := 0) (cs := []) (k _ (.head _)) (.row _ _ _ _) (Nat.le_refl _) rfl rfl (by simp) (.inr ⟨0, rfl, Nat.le_refl _⟩)
  · exact (h.own.sl []).mono fun q hq => k q (by simpa using hq)
theorem OwnZ.empty {e b : Nat} : OwnZ e (.slice (some ⟨b, 0, some 0⟩) 0 (2 * 0 + 1)) [] [(b, Ch.row e 0 0 [])] := .inl ⟨rfl, b, rfl, rfl⟩
theorem nodes_all (xs : List Nat) : (nodes xs).all one = true := by
  rw [List.all_eq_true]; intro q hq; obtain ⟨z, _, rfl⟩ := List.mem_map.1 hq; rfl
/-- Some numbers behind. -/
theorem WR.appZS {e : Nat} {s x : Operand} {v y : Value} {xs ys : List Nat} {Mx T : HL} (hg : gOK L gd) (hd : Nat.blt d nt = true) (hs : ev L s = some v) (hy : ev L x = some y) (hO : OwnZ e v xs Mx) (hS : Sl (Mx ++ T) 1 y (nodes ys)) (h0 : ys = [] → y = .slice none 0 0) (hH : hasH (Mx ++ T) n H)
    (hx : xs.length ≤ 1000) (hyl : ys.length ≤ 1000)
    (kk : ∀ v' Mx' n' H', OwnZ e v' (xs ++ ys) Mx' → hasH (Mx' ++ T) n' H' → n ≤ n' → WR C nt l ((d, v') :: L) D H' K) : WR C nt (⟨i, some d, .append e 1 s x, gd, lo⟩ :: l) L D H K := by
  by_cases hne : ys = []
  · have hy0 := h0 hne
    subst hy0
    subst hne
    rw [List.append_nil] at kk
    rcases hO with ⟨rfl, b, rfl, rfl⟩ | ⟨h1, h2⟩
    · exact WR.appNil hg hd hs hy hH (.head _) fun H' hH' => kk _ _ n H' OwnZ.empty hH' (Nat.le_refl _)
    · exact WR.append0 hg hd hs hy (.inr h2) rfl rfl (by decide) (kk _ _ n H (.inr ⟨h1, h2⟩) hH (Nat.le_refl _))
  · have hnn : nodes ys ≠ [] := fun h => hne (List.map_eq_nil_iff.1 h)
    have hl0 := List.length_pos_iff.2 hne
    obtain ⟨hk, hsr⟩ := hS.src hH hnn
    have hcell := hsr _ (Nat.le_refl _)
    rw [List.take_length] at hcell
    rcases hO with ⟨rfl, b, rfl, rfl⟩ | ⟨h1, h2⟩
    · refine WR.appendNew hg hd hs hy hH (.head _) (.row _ _ _ _) (Nat.zero_le _) (Nat.zero_le _) hk hcell (by simp) (by simp; omega) (nodes_all _) (by omega) (by omega) (by simp; omega) fun H' hH' => ?_
      exact kk _ [(n, .row e 0 0 (nodes ys))] (n + 1) H' (.inr ⟨by simpa using hne, by rw [List.nil_append]; exact .mk (by simp)⟩) (hH'.sub (.cons_cons _ (List.sublist_append_right _ _))) (by omega)
    · obtain ⟨v', Mx', n', H', q1, q2, q3, q4⟩ := append_ownR (P := C.c.P) h2.own hH hk hcell (by simp) (by simp; omega) (nodes_all _) (Nat.le_refl _) (by decide) (by simp; omega)
      refine WR.op hg hd (H' := H') (v := v') (fun t ht => ?_) (kk v' Mx' n' H' (.inr ⟨fun h => h1 (List.append_eq_nil_iff.1 h).1, by rw [nodes, List.map_append]; exact q2⟩) q3 q4)
      simp only [opA, ev_ok ht hs, ev_ok ht hy, q1]
/-- One number behind. -/
theorem WR.app1Z {j d2 : Nat} {e : Nat} {z : List Value} {s x : Operand} {v : Value} {y : Nat} {xs : List Nat} {Mx T : HL} (hd : Nat.blt d nt = true) (hd2 : Nat.blt d2 nt = true)
    (hx : ev L x = some (.int .i64 (y : Int))) (hs : ev ((d, .slice (some ⟨n, 0, some 0⟩) 1 (2 * 1 + 1)) :: L) s = some v) (hO : OwnZ e v xs Mx) (hH : hasH (Mx ++ T) n H)
    (hc : Instr.fill (fun j => some (j * 1, 1)) z.toArray [(0, .int .i64 (y : Int))] = some [Value.int .i64 (y : Int)].toArray) (hxs : xs.length ≤ 900)
    (kk : ∀ v' Mx' n' H', OwnR e 1 v' (nodes (xs ++ [y])) Mx' → hasH (Mx' ++ T) n' H' → n ≤ n' → WR C nt l ((d2, v') :: (d, .slice (some ⟨n, 0, some 0⟩) 1 (2 * 1 + 1)) :: L) D H' K) :
    WR C nt (⟨i, some d, .bldS e 1 z 1 [(0, x)], none, []⟩ :: ⟨j, some d2, .append e 1 s (.tmp d), none, lo⟩ :: l) L D H K := by
  have hns : nodes (xs ++ [y]) = nodes xs ++ [.int .i64 (y : Int)] := by simp [nodes]
  rcases hO with ⟨rfl, b, rfl, rfl⟩ | ⟨h1, h2⟩
  · refine WR.bldS gN hd hH (vs := [(0, .int .i64 (y : Int))]) (by simp only [evp, hx]) hc rfl fun H1 hH1 => ?_
    have hy : ev ((d, .slice (some ⟨n, 0, some 0⟩) 1 (2 * 1 + 1)) :: L) (.tmp d) = some (.slice (some ⟨n, 0, some 0⟩) 1 (2 * 1 + 1)) := by simp [ev, Env.get]
    have hcell : srcCells H1 1 1 (.slice (some ⟨n, 0, some 0⟩) 1 (2 * 1 + 1)) = some [.int .i64 (y : Int)] := by
      have := hH1.readN (b := n) (u := 0) (lo := 0) (o := 0) (k := 1 * 1) (ch := .row e 0 0 [.int .i64 (y : Int)]) (cs := [.int .i64 (y : Int)]) (by simp) (.row _ _ _ _) (Nat.le_refl _) (by simp)
      simpa [srcCells] using this
    refine WR.appendNew gN hd2 hs hy hH1 (b := b) (ch := .row e 0 0 []) (by simp) (.row _ _ _ _) (Nat.zero_le _) (Nat.zero_le _) rfl hcell rfl (Nat.le_refl _) rfl (Nat.le_refl _) (by decide) (by decide) fun H' hH' => ?_
    refine kk _ [(n + 1, .row e 0 0 [.int .i64 (y : Int)])] (n + 1 + 1) H' (.mk (by simp)) (hH'.sub ?_) (by omega)
    exact .cons_cons _ (.cons _ (.cons _ (List.Sublist.refl _)))
  · refine WR.append1R hd hd2 hx hs h2.own hH hc rfl rfl (Nat.le_refl _) (by decide) (by simp; omega) fun v' Mx' n' H' q1 q2 q3 => ?_
    exact kk v' Mx' n' H' (by rw [hns]; exact q1) q2 q3
end
end Go.Abs
