/- Texts of the law, joined. -/
import Derived.Test.YteopjpfhhekkoaaJ4
import Derived.Test.YteopjpfhhekkoaaTtP
/- All lists of different numbers, one after the other. -/
namespace Go.Abs
set_option linter.unusedSectionVars false
set_option linter.unusedSimpArgs false
variable [Globs]
open Go
section
variable {C : CW} {nt : Nat} {L : Env} {D : List Nat} {H : Heap} {K : St → Prop} {M M' : HL} {n i d : Nat} {gd : Option (Tmp × Bool)} {lo : List Nat} {l : List POp} {rs : List Rd}
/-- A list: nothing, or a row that may be open or full. -/
def LstV (M : HL) (v : Value) (cs : List Value) : Prop := (cs = [] ∧ v = .slice none 0 0) ∨ (cs ≠ [] ∧ ∃ b o u cap, v = .slice (some ⟨b, o, some u⟩) cs.length cap ∧ KCell M b o u cs ∧ (cap = 2 * 1 ∨ cap = 2 * cs.length + 1))
/-- One that is full. -/
def ClipV (M : HL) (v : Value) (cs : List Value) : Prop := (cs = [] ∧ v = .slice none 0 0) ∨ (cs ≠ [] ∧ ∃ b o u, v = .slice (some ⟨b, o, some u⟩) cs.length (2 * cs.length + 1) ∧ KCell M b o u cs)
theorem LstV.mono {v : Value} {cs : List Value} (h : LstV M v cs) (k : ∀ q ∈ M, q ∈ M') : LstV M' v cs := by
  rcases h with h | ⟨h0, b, o, u, cap, h1, h2, h3⟩
  · exact .inl h
  · exact .inr ⟨h0, b, o, u, cap, h1, h2.mono k, h3⟩
theorem LstV.sl {v : Value} {cs : List Value} (h : LstV M v cs) : Sl M 1 v cs := by
  rcases h with ⟨rfl, rfl⟩ | ⟨h0, b, o, u, cap, rfl, ⟨ch, lo, cells, h1, h2, h3, h4, h5⟩, h6⟩
  · exact .nil 0
  · refine .row h1 h2 h3 (by simp) h5 h4 ?_
    rcases h6 with rfl | rfl
    · exact .inl (.inl rfl)
    · exact .inr ⟨_, rfl, Nat.le_refl _⟩
theorem LstV.one_ {v : Value} {cs : List Value} (h : LstV M v cs) : one v = true := h.sl.one_
theorem OpV.clip {x hi mx : Operand} {v : Value} {cs : List Value} {kb kc : IntKind} (hx : ev L x = some v) (hS : LstV M v cs) (h2 : ev L hi = some (.int kb (cs.length : Int))) (h3 : ev L mx = some (.int kc (cs.length : Int))) :
    ∃ v', OpV C (.slS x 1 none (some hi) (some mx)) L H v' H ∧ ClipV M v' cs := by
  rcases hS with ⟨rfl, rfl⟩ | ⟨h0, b, o, u, cap, rfl, h1, h6⟩
  · refine ⟨.slice none 0 0, fun t ht => ?_, .inl ⟨rfl, rfl⟩⟩
    simp only [opA, ev_ok ht hx, Option.map_some, Option.map_none, ev_ok ht h2, ev_ok ht h3, oSlS, sliceA, loOf, hiOf, nat_of, Option.isSome_some, Option.isNone_some, Bool.and_false, cond_false, capOf, sliceTo]
    rfl
  · obtain ⟨len, hlen⟩ : ∃ len, cs.length = len := ⟨_, rfl⟩
    have hl0 : 1 ≤ len := by have := List.length_pos_iff.2 h0; omega
    have hb0 : Nat.beq len 0 = false := by cases hb : Nat.beq len 0 with | false => rfl | true => have := Nat.eq_of_beq_eq_true hb; omega
    have hk : cutKnown 1 (some ⟨b, o, some u⟩) 0 len len = some (.slice (some ⟨b, o, some u⟩) len (2 * len + 1)) := by
      have : (bif Nat.beq len 0 then (⟨b, o, some u⟩ : Addr) else Addr.plus ⟨b, o, some u⟩ (0 * 1)) = ⟨b, o, some u⟩ := by
        cases Nat.beq len 0 <;> rfl
      simp only [cutKnown, this, Nat.sub_zero]
    refine ⟨.slice (some ⟨b, o, some u⟩) len (2 * len + 1), fun t ht => ?_, .inr ⟨h0, b, o, u, by rw [hlen], h1⟩⟩
    rw [hlen] at hx h2 h3 h6
    rcases h6 with rfl | rfl
    · simp only [opA, ev_ok ht hx, Option.map_some, Option.map_none, ev_ok ht h2, ev_ok ht h3, oSlS, sliceA, loOf, hiOf, nat_of, Option.isSome_some, Option.isNone_some, Bool.and_false, cond_false, capOf_open _ (show 1 ≤ 1000 by decide), sliceTo]
      rw [cond_some (by simp [Nat.ble_eq])]
      simp only [cutOpenMax, hb0, cond_false, hk, asVal]
    · simp only [opA, ev_ok ht hx, Option.map_some, Option.map_none, ev_ok ht h2, ev_ok ht h3, oSlS, sliceA, loOf, hiOf, nat_of, Option.isSome_some, Option.isNone_some, Bool.and_false, cond_false, capOf_known, sliceTo]
      rw [cond_some (by simp [Nat.ble_eq])]
      simp only [hk, asVal]
theorem WR.clip {x hi mx : Operand} {v : Value} {cs : List Value} {kb kc : IntKind} (hg : gOK L gd) (hd : Nat.blt d nt = true) (hx : ev L x = some v) (hS : LstV M v cs) (h2 : ev L hi = some (.int kb (cs.length : Int))) (h3 : ev L mx = some (.int kc (cs.length : Int)))
    (k : ∀ v', ClipV M v' cs → WR C nt l ((d, v') :: L) D H K) : WR C nt (⟨i, some d, .slS x 1 none (some hi) (some mx), gd, lo⟩ :: l) L D H K := by
  obtain ⟨v', h4, h5⟩ := OpV.clip (C := C) (H := H) hx hS h2 h3
  exact WR.op hg hd h4 (k v' h5)
/-- Appended to a list that is full: a new row. -/
theorem OpV.appFull {e b2 : Nat} {s x : Operand} {v y : Value} {cs : List Value} (hH : hasH M n H) (hs : ev L s = some v) (hS : ClipV M v cs) (hx : ev L x = some (.slice (some ⟨b2, 0, some 0⟩) 1 (2 * 1 + 1))) (hm : (b2, .row e 0 0 [y]) ∈ M) (hone : cs.all one = true) (hy : one y = true) (hl : cs.length ≤ 1000) :
    ∃ H', OpV C (.append e 1 s x) L H (.slice (some ⟨n, 0, some 0⟩) (cs.length + 1) (2 * 1)) H' ∧ hasH ((n, .row e 0 0 (cs ++ [y])) :: M) (n + 1) H' := by
  have hone2 : (cs ++ [y]).all one = true := by rw [List.all_append, hone]; simp [hy]
  refine ⟨H.row e (cs ++ [y]), fun t ht => ?_, hH.row e hone2⟩
  have hr := hH.readN (b := b2) (u := 0) (lo := 0) (o := 0) (k := 1) hm (.row _ _ _ _) (Nat.le_refl _) (by simp)
  have hr2 : H.readN ⟨b2, 0, some 0⟩ 1 = some [y] := by simpa using hr
  have hsx : srcCells H 1 1 (.slice (some ⟨b2, 0, some 0⟩) 1 (2 * 1 + 1)) = some [y] := by simpa [srcCells] using hr
  have hsm : ∀ len, len ≤ 1000 → small 1 (len + 1) = true := fun len h => by simp only [small, Bool.and_eq_true]; exact ⟨⟨Nat.ble_eq_true_of_le (by omega), Nat.ble_eq_true_of_le (by omega)⟩, Nat.ble_eq_true_of_le (by omega)⟩
  rcases hS with ⟨rfl, rfl⟩ | ⟨h0, b, o, u, rfl, h1⟩
  · have := hsm 0 (by omega)
    simp only [opA, ev_ok ht hs, ev_ok ht hx, appendA, srcLen, hsx, appWith, capOf, appNew, newAddr, hH.next]
    have hs0 : srcCells H 1 0 (.slice none 0 0) = some [] := rfl
    simp only [hs0]
    have e1 : Nat.ble (0 + 1) 0 = false := rfl
    simp only [e1, cond_false, this, List.all_nil, List.all_cons, hy, Bool.and_self, cond_true, List.length_nil, List.length_singleton, List.nil_append, Nat.zero_add, Nat.mul_one]
    rfl
  · obtain ⟨len, hlen⟩ : ∃ len, cs.length = len := ⟨_, rfl⟩
    have hrd := h1.readN' hH hlen
    have hsr : srcCells H 1 len (.slice (some ⟨b, o, some u⟩) len (2 * len + 1)) = some cs := by simpa [srcCells] using hrd
    have e1 : Nat.ble (len + 1) len = false := by
      cases hb : Nat.ble (len + 1) len with
      | false => rfl
      | true => have := Nat.le_of_ble_eq_true hb; omega
    have e2 : Nat.beq (cs.length + [y].length) ((len + 1) * 1) = true := by rw [hlen, Nat.mul_one]; exact Nat.beq_refl _
    have := hsm len (by omega)
    rw [hlen] at hs
    rw [hlen]
    simp only [opA, ev_ok ht hs, ev_ok ht hx, appendA, srcLen, hsx, appWith, capOf_known, e1, cond_false, hsr, appNew, this, hone, List.all_cons, List.all_nil, hy, Bool.and_self, e2, cond_true, newAddr, hH.next]
theorem ClipV.mono {v : Value} {cs : List Value} (h : ClipV M v cs) (k : ∀ q ∈ M, q ∈ M') : ClipV M' v cs := by
  rcases h with h | ⟨h0, b, o, u, h1, h2⟩
  · exact .inl h
  · exact .inr ⟨h0, b, o, u, h1, h2.mono k⟩
theorem WD.appFull {e b2 : Nat} {s x : Operand} {v y : Value} {cs : List Value} (hg : gOK L gd) (hd : Nat.blt d nt = true) (hH : hasH M n H) (hs : ev L s = some v) (hS : ClipV M v cs) (hx : ev L x = some (.slice (some ⟨b2, 0, some 0⟩) 1 (2 * 1 + 1))) (hm : (b2, .row e 0 0 [y]) ∈ M) (hone : cs.all one = true) (hy : one y = true) (hl : cs.length ≤ 1000)
    (kk : ∀ H', hasH ((n, .row e 0 0 (cs ++ [y])) :: M) (n + 1) H' → stands H' lo rs = true ∧ WD C nt l rs ((d, .slice (some ⟨n, 0, some 0⟩) (cs.length + 1) (2 * 1)) :: L) D H' K) : WD C nt (⟨i, some d, .append e 1 s x, gd, lo⟩ :: l) rs L D H K := by
  obtain ⟨H', h4, h5⟩ := OpV.appFull (C := C) hH hs hS hx hm hone hy hl
  obtain ⟨k1, k2⟩ := kk H' h5
  exact WD.op hg hd h4 rfl k1 k2

end
end Go.Abs
namespace Go.Proofs.Yteopjpfhhekkoaa.Tt
open Go Go.Abs Go.Mth
set_option linter.unusedVariables false
set_option linter.unusedSimpArgs false
def preL (n : Nat) : Nat → List Nat → List (List Nat)
  | 0, l => if l = [] then [] else [l]
  | r + 1, l => (if l = [] then [] else [l]) ++ ((List.range n).filter fun x => !decide (x ∈ l)).flatMap fun x => preL n r (l ++ [x])
/-- Those that go on with a number below k. -/
def preK (n r : Nat) (l : List Nat) (k : Nat) : List (List Nat) := ((List.range' k (n - k)).filter fun x => !decide (x ∈ l)).flatMap fun x => preL n r (l ++ [x])
theorem preK_zero (n r : Nat) (l : List Nat) : preL n (r + 1) l = (if l = [] then [] else [l]) ++ preK n r l 0 := by
  unfold preK
  rw [Nat.sub_zero, ← List.range_eq_range']; rfl
theorem preK_in {n r k : Nat} {l : List Nat} (hk : k < n) (h : k ∉ l) : preK n r l k = preL n r (l ++ [k]) ++ preK n r l (k + 1) := by
  unfold preK
  rw [show n - k = (n - (k + 1)) + 1 by omega, List.range'_succ, List.filter_cons_of_pos (by simp [h]), List.flatMap_cons]
theorem preK_out {n r k : Nat} {l : List Nat} (hk : k < n) (h : k ∈ l) : preK n r l k = preK n r l (k + 1) := by
  unfold preK
  rw [show n - k = (n - (k + 1)) + 1 by omega, List.range'_succ, List.filter_cons_of_neg (by simp [h])]
theorem preK_end (n r : Nat) (l : List Nat) : preK n r l n = [] := by unfold preK; rw [Nat.sub_self]; rfl
def Dis (n : Nat) (l : List Nat) : Prop := l.Nodup ∧ ∀ x ∈ l, x < n
theorem Dis.len {n : Nat} {l : List Nat} (h : Dis n l) : l.length ≤ n := nodup_le n l h.1 h.2
theorem Dis.snoc {n x : Nat} {l : List Nat} (h : Dis n l) (hx : x < n) (hm : x ∉ l) : Dis n (l ++ [x]) :=
  ⟨List.nodup_append.2 ⟨h.1, by simp, fun a ha b hb => by rw [List.mem_singleton.1 hb]; exact fun e => hm (e ▸ ha)⟩, fun y hy => by
    rcases List.mem_append.1 hy with hy | hy
    · exact h.2 y hy
    · rw [List.mem_singleton.1 hy]; exact hx⟩
theorem mem_preL {n : Nat} : ∀ {r : Nat} {l m : List Nat}, l.length + r = n → Dis n l → (m ∈ preL n r l ↔ m ≠ [] ∧ Dis n m ∧ m.take l.length = l)
  | 0, l, m, hl, hd => by
    have hfull : Dis n m → m.take l.length = l → m = l := fun h1 h2 => by
      have := h1.len
      rwa [List.take_of_length_le (by omega)] at h2
    unfold preL
    by_cases e : l = []
    · rw [if_pos e]
      constructor
      · intro h; cases h
      · rintro ⟨h1, h2, h3⟩; exact absurd ((hfull h2 h3).trans e) h1
    · rw [if_neg e, List.mem_singleton]
      constructor
      · rintro rfl; exact ⟨e, hd, List.take_length⟩
      · rintro ⟨h1, h2, h3⟩; exact hfull h2 h3
  | r + 1, l, m, hl, hd => by
    unfold preL
    rw [List.mem_append, List.mem_flatMap]
    constructor
    · rintro (h | ⟨x, hx, h⟩)
      · by_cases e : l = []
        · rw [if_pos e] at h; cases h
        · rw [if_neg e, List.mem_singleton] at h
          subst h; exact ⟨e, hd, List.take_length⟩
      · obtain ⟨h1, h2⟩ := List.mem_filter.1 hx
        have hm : x ∉ l := by simpa using h2
        obtain ⟨k1, k2, k3⟩ := (mem_preL (by simp; omega) (hd.snoc (List.mem_range.1 h1) hm)).1 h
        refine ⟨k1, k2, ?_⟩
        rw [List.length_append, List.length_singleton] at k3
        have := congrArg (List.take l.length) k3
        rwa [List.take_take, Nat.min_eq_left (by omega), List.take_left] at this
    · rintro ⟨h1, h2, h3⟩
      by_cases e : m.length = l.length
      · have hml : m = l := by rwa [← e, List.take_length] at h3
        left
        rw [if_neg (by rw [← hml]; exact h1), List.mem_singleton]; exact hml
      · right
        have hlt : l.length < m.length := by
          have := congrArg List.length h3
          rw [List.length_take] at this; omega
        have hx := h2.2 _ (getD_mem (a := 0) hlt)
        have e1 : m.take (l.length + 1) = l ++ [m.getD l.length 0] := by rw [take_snoc' (d := 0) hlt, h3]
        have hm : m.getD l.length 0 ∉ l := by
          have := nodup_at.1 h2.1 l.length hlt
          rwa [h3] at this
        refine ⟨m.getD l.length 0, List.mem_filter.2 ⟨List.mem_range.2 hx, by simpa using hm⟩, (mem_preL (by simp; omega) (hd.snoc hx hm)).2 ⟨h1, h2, ?_⟩⟩
        rw [List.length_append, List.length_singleton]; exact e1
theorem mem_pre {n : Nat} {m : List Nat} : m ∈ preL n n [] ↔ m ≠ [] ∧ Dis n m := by
  rw [mem_preL (by simp) ⟨List.nodup_nil, fun x hx => by cases hx⟩]
  exact ⟨fun h => ⟨h.1, h.2.1⟩, fun h => ⟨h.1, h.2, rfl⟩⟩
abbrev ptrT (b : Nat) : Value := .pointer (some ⟨b, 0, some 0⟩)
structure PX where
  k : Nat
  Mc : HL
  X : HL
  n : Nat
attribute [local irreducible] gOK WS WC WR WD Ends FS YS OpV seqK blockK loopK midK retK rdK asgK rangeEnd sat Cell
section
variable {M : HL} {n0 : Nat} {H : Heap} {v w : Value}
theorem Clip_fs (hH : hasH M n0 H) {cs : List Value} (hS : LstV M v cs) (hl : cs.length ≤ 1000) :
    FS C 89 [v] H (fun e H' => ClipV M e cs ∧ H' = H) := by
  have hs := hS.sl
  have hlen : ∃ a c, v = .slice a cs.length c := by
    rcases hS with ⟨rfl, rfl⟩ | ⟨h0, b, o, u, cap, rfl, h1, h6⟩
    · exact ⟨_, _, rfl⟩
    · exact ⟨_, _, rfl⟩
  obtain ⟨a, c, hv⟩ := hlen
  refine FS.intro (pf := pf89) rfl rfl rfl ?_
  repeat' (first | refine zP ?_ | refine zA ?_ | (refine zM ?_; intro _ _) | refine zX ?_ | (refine zC ?_; intro _ _ _ _) | (refine zS ?_; intro _ _) | (apply Ws <;> intro hg))
  refine WR.clip (by first | exact gN | exact gS rfl) rfl rfl hS rfl rfl fun v' h => ?_
  repeat' (first | refine zP ?_ | refine zA ?_ | (refine zM ?_; intro _ _) | refine zX ?_ | (refine zC ?_; intro _ _ _ _) | (refine zS ?_; intro _ _) | (apply Ws <;> intro hg))
  exact Ends.ret1 rfl ⟨h, rfl⟩
set_option maxHeartbeats 2000000 in
theorem put_fs {bn be bp N : Nat} {g : FuncId} {vb : List Value} {X0 : HL} {J : List (List Nat) → HL → HL → Prop} (hN : N ≤ 6)
    (hmN : (bn, Ch.row 3 0 0 [.int .i64 (N : Int)]) ∈ X0) (hmE : (be, Ch.row 71 0 0 [.func (.func g) [].toArray vb.toArray]) ∈ X0)
    (hmP : (bp, Ch.row 71 0 0 [.func (.func 88) [].toArray [ptrT be, ptrT bn, ptrT bp].toArray]) ∈ X0)
    (hmono : ∀ zs Mc X X', J zs Mc X → (∀ q ∈ X, q ∈ X') → J zs Mc X')
    (hy : ∀ z zs Mc X u n' H', J (z :: zs) Mc X → z ≠ [] → Dis N z → LstV X u (nodes z) → (∀ q ∈ X0, q ∈ X) → hasH (Mc ++ X) n' H' → FS C g ([] ++ [u] ++ vb) H' (fun _ H2 => ∃ Mc2 X2 n2, n' ≤ n2 ∧ (∀ q ∈ X, q ∈ X2) ∧ J zs Mc2 X2 ∧ hasH (Mc2 ++ X2) n2 H2)) :
    ∀ (r : Nat) {l : List Nat} {zs : List (List Nat)} {v : Value} {Mc X : HL} {n0 : Nat} {H : Heap} (hlr : l.length + r = N) (hd : Dis N l) (hJ : J (preL N r l ++ zs) Mc X) (hl : LstV X v (nodes l)) (hX : ∀ q ∈ X0, q ∈ X) (hH : hasH (Mc ++ X) n0 H),
      FS C 88 [v, ptrT be, ptrT bn, ptrT bp] H (fun _ H2 => ∃ Mc2 X2 n2, n0 ≤ n2 ∧ (∀ q ∈ X, q ∈ X2) ∧ J zs Mc2 X2 ∧ hasH (Mc2 ++ X2) n2 H2) := by
  intro r
  induction r with
  | zero =>
    intro l zs v Mc X n0 H hlr hd hJ hl hX hH
    have hv := hl.one_
    have hSl := hl.sl.mono (M' := Mc ++ X) fun q hq => List.mem_append_right _ hq
    have mE : (be, Ch.row 71 0 0 [.func (.func g) [].toArray vb.toArray]) ∈ Mc ++ X := List.mem_append_right _ (hX _ hmE)
    have hall : ∀ k, k < N → k ∈ l := fun k hk => nodup_all hd.1 hd.2 (by omega) hk
    refine FS.intro (pf := pf88) rfl rfl rfl ?_
    repeat' (first | refine zP ?_ | refine zA ?_ | (refine zM ?_; intro _ _) | refine zX ?_ | (refine zC ?_; intro _ _ _ _) | (refine zS ?_; intro _ _) | (apply Ws <;> intro hg))
    refine WC.joinX [(0, v), (1, ptrT be), (2, ptrT bn), (3, ptrT bp)] (by repeat' (first | exact .nil | refine .cons rfl ?_)) (fun s : PX => []) (fun s H' => n0 ≤ s.n ∧ (∀ q ∈ X, q ∈ s.X) ∧ J (([] : List (List Nat)) ++ zs) s.Mc s.X ∧ hasH (s.Mc ++ s.X) s.n H') ?_ ?_
    · refine WC.condP rfl (fun hpos => ?_) (fun hpos => ?_)
      · have hne : l ≠ [] := fun e => by rw [e] at hpos; simp at hpos
        rw [show preL N 0 l = (if l = [] then [] else [l]) ++ [] by unfold preL; simp, if_neg hne, List.append_assoc] at hJ
        repeat' (first | refine zP ?_ | refine zA ?_ | (refine zM ?_; intro _ _) | refine zX ?_ | (refine zC ?_; intro _ _ _ _) | (refine zS ?_; intro _ _) | (apply Ws <;> intro hg))
        refine WR.callV (by first | exact gN | exact gS rfl) rfl rfl rfl (hy l _ Mc X v n0 _ hJ hne hd hl hX hH) ?_
        rintro _ H1 ⟨Mc1, X1, n1, hn1, hX1, hJ1, hH1⟩
        repeat' (first | refine zP ?_ | refine zA ?_ | (refine zM ?_; intro _ _) | refine zX ?_ | (refine zC ?_; intro _ _ _ _) | (refine zS ?_; intro _ _) | (apply Ws <;> intro hg))
        exact Ends.midE (α := PX) ⟨0, Mc1, X1, n1⟩ (by repeat' (first | exact .nil | refine .cons rfl ?_)) rfl ⟨hn1, hX1, hJ1, hH1⟩
      · have hne : l = [] := List.length_eq_zero_iff.1 (by omega)
        rw [show preL N 0 l = (if l = [] then [] else [l]) ++ [] by unfold preL; simp, if_pos hne, List.nil_append] at hJ
        repeat' (first | refine zP ?_ | refine zA ?_ | (refine zM ?_; intro _ _) | refine zX ?_ | (refine zC ?_; intro _ _ _ _) | (refine zS ?_; intro _ _) | (apply Ws <;> intro hg))
        exact Ends.midE (α := PX) ⟨0, Mc, X, n0⟩ (by repeat' (first | exact .nil | refine .cons rfl ?_)) rfl ⟨Nat.le_refl _, fun q hq => hq, hJ, hH⟩
    · clear hH hSl mE hJ
      rintro ⟨_, Mc1, X1, n1⟩ H1 ⟨hn1, hX1, hJ1, hH1⟩
      simp only at hn1 hX1 hJ1 hH1
      have mN : (bn, Ch.row 3 0 0 [.int .i64 (N : Int)]) ∈ Mc1 ++ X1 := List.mem_append_right _ (hX1 _ (hX _ hmN))
      dsimp only [List.cons_append, List.nil_append]
      repeat' (first | refine zP ?_ | refine zA ?_ | (refine zM ?_; intro _ _) | refine zX ?_ | (refine zC ?_; intro _ _ _ _) | (refine zS ?_; intro _ _) | (apply Ws <;> intro hg))
      clear mN
      refine WC.loopX [(0, v), (1, ptrT be), (2, ptrT bn), (3, ptrT bp), (12, .int .i64 (N : Int))] (fun s : PX => [(13, .int .i64 (s.k : Int))]) [] (fun s H' => s.k ≤ N ∧ n0 ≤ s.n ∧ (∀ q ∈ X, q ∈ s.X) ∧ J (([] : List (List Nat)) ++ zs) s.Mc s.X ∧ hasH (s.Mc ++ s.X) s.n H') (fun s => N - s.k) ⟨0, Mc1, X1, n1⟩ (by repeat' (first | exact .nil | refine .cons rfl ?_)) rfl
        ⟨Nat.zero_le _, hn1, hX1, hJ1, hH1⟩ ?_
      clear hn1 hX1 hJ1 hH1
      rintro ⟨k, Mc2, X2, n2⟩ H2 ⟨hk, hn2, hX2, hJ2, hH2⟩
      simp only at hk hn2 hX2 hJ2 hH2
      dsimp only [List.cons_append, List.nil_append]
      repeat' (first | refine zP ?_ | refine zA ?_ | (refine zM ?_; intro _ _) | refine zX ?_ | (refine zC ?_; intro _ _ _ _) | (refine zS ?_; intro _ _) | (apply Ws <;> intro hg))
      refine WC.condP rfl (fun hltk => ?_) (fun hltk => ?_)
      · have hk' : k < N := by omega
        have hl2 := hl.mono hX2
        have hSl2 : Sl (Mc2 ++ X2) 1 v (nodes l) := hl2.sl.mono fun q hq => List.mem_append_right _ hq
        have hdl := hd.len
        repeat' (first | refine zP ?_ | refine zA ?_ | (refine zM ?_; intro _ _) | refine zX ?_ | (refine zC ?_; intro _ _ _ _) | (refine zS ?_; intro _ _) | (apply Ws <;> intro hg))
        refine WR.call (by first | exact gN | exact gS rfl) rfl rfl (Contains_fs hH2 hSl2 (by omega) k) ?_
        rintro _ H3 ⟨rfl, rfl⟩
        by_cases hm : k ∈ l
        · rw [decide_eq_true hm]
          repeat' (first | refine zP ?_ | refine zA ?_ | (refine zM ?_; intro _ _) | refine zX ?_ | (refine zC ?_; intro _ _ _ _) | (refine zS ?_; intro _ _) | (apply Ws <;> intro hg))
          exact Ends.loop ⟨k + 1, Mc2, X2, n2⟩ (by simp only; omega) (by repeat' (first | exact .nil | refine .cons rfl ?_)) rfl ⟨by simp only; omega, hn2, hX2, hJ2, hH2⟩
        · exact absurd (hall k hk') hm
      · have hkl : k = N := by omega
        subst hkl
        repeat' (first | refine zP ?_ | refine zA ?_ | (refine zM ?_; intro _ _) | refine zX ?_ | (refine zC ?_; intro _ _ _ _) | (refine zS ?_; intro _ _) | (apply Ws <;> intro hg))
        exact Ends.end0 ⟨Mc2, X2, n2, hn2, hX2, by simpa using hJ2, hH2⟩
  | succ r ih =>
    intro l zs v Mc X n0 H hlr hd hJ hl hX hH
    have hv := hl.one_
    have hSl := hl.sl.mono (M' := Mc ++ X) fun q hq => List.mem_append_right _ hq
    have mE : (be, Ch.row 71 0 0 [.func (.func g) [].toArray vb.toArray]) ∈ Mc ++ X := List.mem_append_right _ (hX _ hmE)
    refine FS.intro (pf := pf88) rfl rfl rfl ?_
    repeat' (first | refine zP ?_ | refine zA ?_ | (refine zM ?_; intro _ _) | refine zX ?_ | (refine zC ?_; intro _ _ _ _) | (refine zS ?_; intro _ _) | (apply Ws <;> intro hg))
    refine WC.joinX [(0, v), (1, ptrT be), (2, ptrT bn), (3, ptrT bp)] (by repeat' (first | exact .nil | refine .cons rfl ?_)) (fun s : PX => []) (fun s H' => n0 ≤ s.n ∧ (∀ q ∈ X, q ∈ s.X) ∧ J (preK N r l 0 ++ zs) s.Mc s.X ∧ hasH (s.Mc ++ s.X) s.n H') ?_ ?_
    · refine WC.condP rfl (fun hpos => ?_) (fun hpos => ?_)
      · have hne : l ≠ [] := fun e => by rw [e] at hpos; simp at hpos
        rw [preK_zero, if_neg hne, List.append_assoc] at hJ
        repeat' (first | refine zP ?_ | refine zA ?_ | (refine zM ?_; intro _ _) | refine zX ?_ | (refine zC ?_; intro _ _ _ _) | (refine zS ?_; intro _ _) | (apply Ws <;> intro hg))
        refine WR.callV (by first | exact gN | exact gS rfl) rfl rfl rfl (hy l _ Mc X v n0 _ hJ hne hd hl hX hH) ?_
        rintro _ H1 ⟨Mc1, X1, n1, hn1, hX1, hJ1, hH1⟩
        repeat' (first | refine zP ?_ | refine zA ?_ | (refine zM ?_; intro _ _) | refine zX ?_ | (refine zC ?_; intro _ _ _ _) | (refine zS ?_; intro _ _) | (apply Ws <;> intro hg))
        exact Ends.midE (α := PX) ⟨0, Mc1, X1, n1⟩ (by repeat' (first | exact .nil | refine .cons rfl ?_)) rfl ⟨hn1, hX1, hJ1, hH1⟩
      · have hne : l = [] := List.length_eq_zero_iff.1 (by omega)
        rw [preK_zero, if_pos hne, List.nil_append] at hJ
        repeat' (first | refine zP ?_ | refine zA ?_ | (refine zM ?_; intro _ _) | refine zX ?_ | (refine zC ?_; intro _ _ _ _) | (refine zS ?_; intro _ _) | (apply Ws <;> intro hg))
        exact Ends.midE (α := PX) ⟨0, Mc, X, n0⟩ (by repeat' (first | exact .nil | refine .cons rfl ?_)) rfl ⟨Nat.le_refl _, fun q hq => hq, hJ, hH⟩
    · clear hH hSl mE hJ
      rintro ⟨_, Mc1, X1, n1⟩ H1 ⟨hn1, hX1, hJ1, hH1⟩
      simp only at hn1 hX1 hJ1 hH1
      have mN : (bn, Ch.row 3 0 0 [.int .i64 (N : Int)]) ∈ Mc1 ++ X1 := List.mem_append_right _ (hX1 _ (hX _ hmN))
      dsimp only [List.cons_append, List.nil_append]
      repeat' (first | refine zP ?_ | refine zA ?_ | (refine zM ?_; intro _ _) | refine zX ?_ | (refine zC ?_; intro _ _ _ _) | (refine zS ?_; intro _ _) | (apply Ws <;> intro hg))
      clear mN
      refine WC.loopX [(0, v), (1, ptrT be), (2, ptrT bn), (3, ptrT bp), (12, .int .i64 (N : Int))] (fun s : PX => [(13, .int .i64 (s.k : Int))]) [] (fun s H' => s.k ≤ N ∧ n0 ≤ s.n ∧ (∀ q ∈ X, q ∈ s.X) ∧ J (preK N r l s.k ++ zs) s.Mc s.X ∧ hasH (s.Mc ++ s.X) s.n H') (fun s => N - s.k) ⟨0, Mc1, X1, n1⟩ (by repeat' (first | exact .nil | refine .cons rfl ?_)) rfl
        ⟨Nat.zero_le _, hn1, hX1, hJ1, hH1⟩ ?_
      clear hn1 hX1 hJ1 hH1
      rintro ⟨k, Mc2, X2, n2⟩ H2 ⟨hk, hn2, hX2, hJ2, hH2⟩
      simp only at hk hn2 hX2 hJ2 hH2
      dsimp only [List.cons_append, List.nil_append]
      repeat' (first | refine zP ?_ | refine zA ?_ | (refine zM ?_; intro _ _) | refine zX ?_ | (refine zC ?_; intro _ _ _ _) | (refine zS ?_; intro _ _) | (apply Ws <;> intro hg))
      refine WC.condP rfl (fun hltk => ?_) (fun hltk => ?_)
      · have hk' : k < N := by omega
        have hl2 := hl.mono hX2
        have hSl2 : Sl (Mc2 ++ X2) 1 v (nodes l) := hl2.sl.mono fun q hq => List.mem_append_right _ hq
        have hdl := hd.len
        repeat' (first | refine zP ?_ | refine zA ?_ | (refine zM ?_; intro _ _) | refine zX ?_ | (refine zC ?_; intro _ _ _ _) | (refine zS ?_; intro _ _) | (apply Ws <;> intro hg))
        refine WR.call (by first | exact gN | exact gS rfl) rfl rfl (Contains_fs hH2 hSl2 (by omega) k) ?_
        rintro _ H3 ⟨rfl, rfl⟩
        by_cases hm : k ∈ l
        · rw [decide_eq_true hm]
          repeat' (first | refine zP ?_ | refine zA ?_ | (refine zM ?_; intro _ _) | refine zX ?_ | (refine zC ?_; intro _ _ _ _) | (refine zS ?_; intro _ _) | (apply Ws <;> intro hg))
          exact Ends.loop ⟨k + 1, Mc2, X2, n2⟩ (by simp only; omega) (by repeat' (first | exact .nil | refine .cons rfl ?_)) rfl ⟨by simp only; omega, hn2, hX2, by simp only; rw [← preK_out hk' hm]; exact hJ2, hH2⟩
        · rw [decide_eq_false hm]
          rw [preK_in hk' hm, List.append_assoc] at hJ2
          have mP : (bp, Ch.row 71 0 0 [.func (.func 88) [].toArray [ptrT be, ptrT bn, ptrT bp].toArray]) ∈ Mc2 ++ X2 := List.mem_append_right _ (hX2 _ (hX _ hmP))
          repeat' (first | refine zP ?_ | refine zA ?_ | (refine zM ?_; intro _ _) | refine zX ?_ | (refine zC ?_; intro _ _ _ _) | (refine zS ?_; intro _ _) | (apply Ws <;> intro hg))
          refine WC.regionD ?_
          refine WD.load1 (by first | exact gN | exact gS rfl) rfl rfl (hH2.read mP (.row _ _ _ _) (Nat.zero_le _) rfl) ?_
          repeat' (first | refine zD ?_ | (refine zE ?_; intro _ _ _ _))
          have hone : (nodes l).all one = true := nodes_one' l
          have hnl : (nodes l).length = l.length := by simp
          have hst : ∀ {Y : HL} {n' : Nat} {H' : Heap}, hasH Y n' H' → (bp, Ch.row 71 0 0 [.func (.func 88) [].toArray [ptrT be, ptrT bn, ptrT bp].toArray]) ∈ Y → stands H' [0] [⟨0, ⟨bp, 0, some 0⟩, none, .func (.func 88) [].toArray [ptrT be, ptrT bn, ptrT bp].toArray⟩] = true := fun h hm =>
            stands_cons (.inr (holds_at (h.read hm (.row _ _ _ _) (Nat.zero_le _) rfl) (same_fn _ [⟨be, 0, some 0⟩, ⟨bn, 0, some 0⟩, ⟨bp, 0, some 0⟩]))) stands_nil'
          refine WD.call (by first | exact gN | exact gS rfl) rfl rfl (Clip_fs hH2 (hl2.mono fun q hq => List.mem_append_right _ hq) (by omega)) ?_
          rintro v3 _ ⟨hCV, rfl⟩
          refine ⟨hst hH2 mP, ?_⟩
          refine WD.bldS (by first | exact gN | exact gS rfl) rfl hH2 (vs := [(0, .int .i64 (k : Int))]) rfl (cs := [.int .i64 (k : Int)]) (by rfl) rfl (fun H3 hH3 => hst hH3 (List.mem_cons_of_mem _ mP)) fun H3 hH3 => ?_
          refine WD.appFull (by first | exact gN | exact gS rfl) rfl hH3 rfl (hCV.mono fun q hq => List.mem_cons_of_mem _ hq) rfl (.head _) hone rfl (by omega) fun H4 hH4 => ⟨hst hH4 (List.mem_cons_of_mem _ (List.mem_cons_of_mem _ mP)), ?_⟩
          refine WD.toWR rfl ?_
          have hns : nodes l ++ [Value.int .i64 (k : Int)] = nodes (l ++ [k]) := by simp [nodes]
          rw [hns] at hH4
          rw [hnl]
          have hH5 : hasH (Mc2 ++ ((n2 + 1, Ch.row 3 0 0 (nodes (l ++ [k]))) :: (n2, .row 3 0 0 [.int .i64 (k : Int)]) :: X2)) (n2 + 1 + 1) H4 := hH4.perm (by
            refine List.Perm.symm (List.Perm.trans List.perm_middle (.cons _ List.perm_middle)))
          have hlN2 : LstV ((n2 + 1, Ch.row 3 0 0 (nodes (l ++ [k]))) :: (n2, .row 3 0 0 [.int .i64 (k : Int)]) :: X2) (.slice (some ⟨n2 + 1, 0, some 0⟩) (l.length + 1) (2 * 1)) (nodes (l ++ [k])) := by
            refine .inr ⟨by simp [nodes], n2 + 1, 0, 0, 2 * 1, by simp, ⟨_, 0, nodes (l ++ [k]), .head _, .row _ _ _ _, Nat.le_refl _, by simp, ?_⟩, .inl rfl⟩
            rw [Nat.sub_zero, List.drop_zero, List.take_length]
          have hJ3 := hmono _ _ _ ((n2 + 1, Ch.row 3 0 0 (nodes (l ++ [k]))) :: (n2, .row 3 0 0 [.int .i64 (k : Int)]) :: X2) hJ2 fun q hq => .tail _ (.tail _ hq)
          refine WR.callV (by first | exact gN | exact gS rfl) rfl rfl rfl (ih (l := l ++ [k]) (by simp; omega) (hd.snoc hk' hm) hJ3 hlN2 (fun q hq => .tail _ (.tail _ (hX2 _ (hX _ hq)))) hH5) ?_
          rintro _ H6 ⟨Mc6, X6, n6, hn6, hX6, hJ6, hH6⟩
          repeat' (first | refine zP ?_ | refine zA ?_ | (refine zM ?_; intro _ _) | refine zX ?_ | (refine zC ?_; intro _ _ _ _) | (refine zS ?_; intro _ _) | (apply Ws <;> intro hg))
          exact Ends.loop ⟨k + 1, Mc6, X6, n6⟩ (by simp only; omega) (by repeat' (first | exact .nil | refine .cons rfl ?_)) rfl ⟨by simp only; omega, by simp only; omega, fun q hq => hX6 _ (.tail _ (.tail _ (hX2 _ hq))), hJ6, hH6⟩
      · have hkl : k = N := by omega
        subst hkl
        repeat' (first | refine zP ?_ | refine zA ?_ | (refine zM ?_; intro _ _) | refine zX ?_ | (refine zC ?_; intro _ _ _ _) | (refine zS ?_; intro _ _) | (apply Ws <;> intro hg))
        exact Ends.end0 ⟨Mc2, X2, n2, hn2, hX2, (by rw [preK_end, List.nil_append] at hJ2; exact hJ2), hH2⟩
end
end Go.Proofs.Yteopjpfhhekkoaa.Tt

/- all; TasteRanked. -/
namespace Go.Proofs.Yteopjpfhhekkoaa.Tt
open Go Go.Abs Go.Mth
set_option linter.unusedVariables false
set_option linter.unusedSimpArgs false
/-- Each one of a list leads to the next one. -/
def chB (D : Nat → Nat → Int) (l : List Nat) : Bool := (List.range (l.length - 1)).all fun j => decide (0 ≤ D (l.getD j 0) (l.getD (j + 1) 0))
theorem chB_iff {D : Nat → Nat → Int} {l : List Nat} : chB D l = true ↔ ∀ j, j + 1 < l.length → 0 ≤ D (l.getD j 0) (l.getD (j + 1) 0) := by
  simp only [chB, List.all_eq_true, List.mem_range, decide_eq_true_eq]
  exact ⟨fun h j hj => h j (by omega), fun h j hj => h j (by omega)⟩
theorem chain_iff {D : Nat → Nat → Int} {n : Nat} {l : List Nat} : Chain (gD D) n l ↔ l ≠ [] ∧ Dis n l ∧ chB D l = true := by
  rw [chB_iff]
  constructor
  · rintro ⟨h1, h2, h3, h4⟩; exact ⟨h1, ⟨h3, h2⟩, fun j hj => gD_iff.1 (h4 j hj)⟩
  · rintro ⟨h1, ⟨h3, h2⟩, h4⟩; exact ⟨h1, h2, h3, fun j hj => gD_iff.2 (h4 j hj)⟩
def fromTo (l : List Nat) (a b : Nat) : Bool := decide (l.getD 0 0 = a) && decide (l.getD (l.length - 1) 0 = b)
theorem fromTo_iff {l : List Nat} {a b : Nat} : fromTo l a b = true ↔ l.getD 0 0 = a ∧ l.getD (l.length - 1) 0 = b := by
  simp only [fromTo, Bool.and_eq_true, decide_eq_true_eq]
def anyL (D : Nat → Nat → Int) (ds : List (List Nat)) (a b : Nat) : Bool := ds.any fun l => chB D l && fromTo l a b
def anyS (D : Nat → Nat → Int) (ds : List (List Nat)) (a b : Nat) : Bool := ds.any fun l => chB D l && fromTo l a b && betB D l
theorem anyL_snoc (D : Nat → Nat → Int) (ds : List (List Nat)) (z : List Nat) (a b : Nat) : anyL D (ds ++ [z]) a b = (anyL D ds a b || (chB D z && fromTo z a b)) := by simp [anyL, List.any_append]
theorem anyS_snoc (D : Nat → Nat → Int) (ds : List (List Nat)) (z : List Nat) (a b : Nat) : anyS D (ds ++ [z]) a b = (anyS D ds a b || (chB D z && fromTo z a b && betB D z)) := by simp [anyS, List.any_append]
theorem anyL_all {D : Nat → Nat → Int} {n a b : Nat} : anyL D (preL n n []) a b = true ↔ RT (gD D) n a b := by
  simp only [anyL, List.any_eq_true, Bool.and_eq_true, fromTo_iff, mem_pre]
  constructor
  · rintro ⟨l, ⟨h1, h2⟩, h3, h4, h5⟩
    have hc : Chain (gD D) n l := chain_iff.2 ⟨h1, h2, h3⟩
    have hl := hc.len
    have := hc.rt (i := 0) (j := l.length - 1) (by omega) (by omega)
    rwa [h4, h5] at this
  · intro h
    obtain ⟨l, h1, h2, h3⟩ := h.chain
    obtain ⟨k1, k2, k3⟩ := chain_iff.1 h1
    exact ⟨l, ⟨k1, k2⟩, k3, h2, h3⟩
theorem anyS_all {D : Nat → Nat → Int} {n a b : Nat} : anyS D (preL n n []) a b = BTb D n a b := by
  apply Bool.eq_iff_iff.2
  rw [BTb_iff]
  simp only [anyS, List.any_eq_true, Bool.and_eq_true, fromTo_iff, mem_pre]
  constructor
  · rintro ⟨l, ⟨h1, h2⟩, ⟨h3, h4, h5⟩, h6⟩
    exact ⟨l, chain_iff.2 ⟨h1, h2, h3⟩, h4, h5, h6⟩
  · rintro ⟨l, h1, h2, h3, h4⟩
    obtain ⟨k1, k2, k3⟩ := chain_iff.1 h1
    exact ⟨l, ⟨k1, k2⟩, ⟨k3, h2, h3⟩, h4⟩
theorem num_bt {D : Nat → Nat → Int} {n : Nat} {W V : Nat → Int} (hV : ∀ a, a < n → 1 ≤ V a) (h : numOK D n W V) {a b : Nat} (hb : BT D n a b) : W b < W a := by
  obtain ⟨l, h1, h2, h3, h4⟩ := hb
  have hl := h1.len
  obtain ⟨j, hj, hd⟩ := betB_iff.1 h4
  have q1 := num_rt hV h (h1.rt (i := 0) (j := j) (by omega) (by omega))
  have q2 := num_lt hV h (h1.lt (j := j) (by omega)) (h1.lt hj) hd
  have q3 := num_rt hV h (h1.rt (i := j + 1) (j := l.length - 1) (by omega) (by omega))
  rw [h2] at q1
  rw [h3] at q3
  omega
attribute [local irreducible] gOK WS WC WR WD Ends FS YS OpV seqK blockK loopK midK retK rdK asgK rangeEnd sat Cell
section
variable {M : HL} {n0 : Nat} {H : Heap} {v w : Value}
theorem all_fs {N : Nat} {g : FuncId} {vb : List Value} {J : List (List Nat) → HL → HL → Prop} (hN : N ≤ 6) {Mc X : HL} (hH : hasH (Mc ++ X) n0 H) (hJ : J (preL N N []) Mc X) (hmono : ∀ zs Mc X X', J zs Mc X → (∀ q ∈ X, q ∈ X') → J zs Mc X')
    (hy : ∀ z zs Mc X' u n' H', J (z :: zs) Mc X' → z ≠ [] → Dis N z → LstV X' u (nodes z) → (∀ q ∈ X, q ∈ X') → hasH (Mc ++ X') n' H' → FS C g ([] ++ [u] ++ vb) H' (fun _ H2 => ∃ Mc2 X2 n2, n' ≤ n2 ∧ (∀ q ∈ X', q ∈ X2) ∧ J zs Mc2 X2 ∧ hasH (Mc2 ++ X2) n2 H2)) :
    FS C 47 [.int .i64 (N : Int), .func (.func g) [].toArray vb.toArray] H (fun _ H2 => ∃ Mc2 X2 n2, n0 ≤ n2 ∧ (∀ q ∈ X, q ∈ X2) ∧ J [] Mc2 X2 ∧ hasH (Mc2 ++ X2) n2 H2) := by
  refine FS.intro (pf := pf47) rfl rfl rfl ?_
  repeat' (first | refine zP ?_ | refine zA ?_ | (refine zM ?_; intro _ _) | refine zX ?_ | (refine zC ?_; intro _ _ _ _) | (refine zS ?_; intro _ _) | (apply Ws <;> intro hg))
  rename_i H1 hH1 H2 hH2 H3 hH3 H4 hH4
  have hH5 : hasH (Mc ++ ((n0 + 1 + 1, Ch.row 71 0 0 [.func (.func 88) [].toArray [ptrT (n0 + 1), ptrT n0, ptrT (n0 + 1 + 1)].toArray]) :: (n0 + 1, Ch.row 71 0 0 [.func (.func g) [].toArray vb.toArray]) :: (n0, Ch.row 3 0 0 [.int .i64 (N : Int)]) :: X)) (n0 + 1 + 1 + 1) H4 := hH4.perm (by
    refine List.Perm.symm (List.Perm.trans List.perm_middle (.cons _ (List.Perm.trans List.perm_middle (.cons _ List.perm_middle)))))
  have hJ2 := hmono _ _ _ ((n0 + 1 + 1, Ch.row 71 0 0 [.func (.func 88) [].toArray [ptrT (n0 + 1), ptrT n0, ptrT (n0 + 1 + 1)].toArray]) :: (n0 + 1, Ch.row 71 0 0 [.func (.func g) [].toArray vb.toArray]) :: (n0, Ch.row 3 0 0 [.int .i64 (N : Int)]) :: X) hJ fun q hq => .tail _ (.tail _ (.tail _ hq))
  refine WR.callV (by first | exact gN | exact gS rfl) rfl rfl rfl (put_fs (bn := n0) (be := n0 + 1) (bp := n0 + 1 + 1) (N := N) (g := g) (vb := vb) hN (.tail _ (.tail _ (.head _))) (.tail _ (.head _)) (.head _) hmono
    (fun z zs Mc X' u n' H' k1 k2 k3 k4 k5 k6 => hy z zs Mc X' u n' H' k1 k2 k3 k4 (fun q hq => k5 _ (.tail _ (.tail _ (.tail _ hq)))) k6) N (l := []) (zs := []) (by simp) ⟨List.nodup_nil, fun x hx => by cases hx⟩ (by rw [List.append_nil]; exact hJ2) (.inl ⟨rfl, rfl⟩) (fun q hq => hq) hH5) ?_
  rintro _ H6 ⟨Mc6, X6, n6, hn6, hX6, hJ6, hH6⟩
  repeat' (first | refine zP ?_ | refine zA ?_ | (refine zM ?_; intro _ _) | refine zX ?_ | (refine zC ?_; intro _ _ _ _) | (refine zS ?_; intro _ _) | (apply Ws <;> intro hg))
  exact Ends.end0 ⟨Mc6, X6, n6, by omega, fun q hq => hX6 _ (.tail _ (.tail _ (.tail _ hq))), hJ6, hH6⟩
set_option maxHeartbeats 2000000 in
theorem ranked1_fs {g : Nat} {S : List Sal} (hok : OKS g S) {bS bL bB : Nat} {Tl Tb : List Bool} {X : HL} {fl fb : Nat → Nat → Bool} (hS : SalesI X v S) (hmS : (bS, Ch.row 22 0 0 [v]) ∈ X) (hTl : TabB Tl fl) (hTb : TabB Tb fb) {z : List Nat} (hz0 : z ≠ []) (hzd : Dis S.length z) (hZ : LstV X w (nodes z))
    (hH : hasH ((bB, .row 80 0 0 (bools Tb)) :: (bL, .row 80 0 0 (bools Tl)) :: X) n0 H) :
    FS C 53 [w, ptrT bS, ptrT bL, ptrT bB] H (fun _ H' => ∃ n' Tl' Tb', n0 ≤ n' ∧ TabB Tl' (fun a b => fl a b || (chB (DP (matS S)) z && fromTo z a b)) ∧ TabB Tb' (fun a b => fb a b || (chB (DP (matS S)) z && fromTo z a b && betB (DP (matS S)) z)) ∧
      hasH ((bB, .row 80 0 0 (bools Tb')) :: (bL, .row 80 0 0 (bools Tl')) :: X) n' H') := by
  obtain ⟨ws, hV, hwl, hrow⟩ := hS.at
  have hlen := hok.len
  have hzl := hzd.len
  have hz1 := List.length_pos_iff.2 hz0
  have hup : ∀ {p : Nat × Ch}, p ∈ X → p ∈ (bB, Ch.row 80 0 0 (bools Tb)) :: (bL, .row 80 0 0 (bools Tl)) :: X := fun h => .tail _ (.tail _ h)
  have mS := hup hmS
  have hSz := hZ.sl.mono (M' := (bB, Ch.row 80 0 0 (bools Tb)) :: (bL, .row 80 0 0 (bools Tl)) :: X) fun q hq => hup hq
  have hVV := hV.mono (M' := (bB, Ch.row 80 0 0 (bools Tb)) :: (bL, .row 80 0 0 (bools Tl)) :: X) fun q hq => hup hq
  have hv1 := hV.one_
  refine FS.intro (pf := pf53) rfl rfl rfl ?_
  repeat' (first | refine zP ?_ | refine zA ?_ | (refine zM ?_; intro _ _) | refine zX ?_ | (refine zC ?_; intro _ _ _ _) | (refine zS ?_; intro _ _) | (apply Ws <;> intro hg))
  refine WC.loopX [(0, w), (1, ptrT bS), (2, ptrT bL), (3, ptrT bB)] (fun s : Nat × Nat => [(5, .bool ((List.range (s.1 - 1)).any fun j => decide (0 < DP (matS S) (z.getD j 0) (z.getD (j + 1) 0)))), (6, .int .i64 (s.1 : Int))]) [] (fun s H' => 1 ≤ s.1 ∧ s.1 ≤ z.length ∧ n0 ≤ s.2 ∧ (∀ j, j + 1 < s.1 → 0 ≤ DP (matS S) (z.getD j 0) (z.getD (j + 1) 0)) ∧ hasH ((bB, .row 80 0 0 (bools Tb)) :: (bL, .row 80 0 0 (bools Tl)) :: X) s.2 H') (fun s => z.length - s.1) (1, n0) (by repeat' (first | exact .nil | refine .cons rfl ?_)) rfl
    ⟨Nat.le_refl _, hz1, Nat.le_refl _, fun j hj => by simp only at hj; omega, hH⟩ ?_
  clear hH
  rintro ⟨k, n1⟩ H1 ⟨hk1, hk, hn1, hno, hH1⟩
  simp only at hk1 hk hn1 hno hH1
  dsimp only [List.cons_append, List.nil_append]
  repeat' (first | refine zP ?_ | refine zA ?_ | (refine zM ?_; intro _ _) | refine zX ?_ | (refine zC ?_; intro _ _ _ _) | (refine zS ?_; intro _ _) | (apply Ws <;> intro hg))
  refine WC.condP rfl (fun hltk => ?_) (fun hltk => ?_)
  · have hk' : k < z.length := by omega
    have ha := hzd.2 _ (getD_mem (a := 0) (show k - 1 < z.length by omega))
    have hb := hzd.2 _ (getD_mem (a := 0) hk')
    obtain ⟨hpa, hta⟩ := hrow _ ha
    obtain ⟨hpb, htb⟩ := hrow _ hb
    have hwa : ws[z.getD (k - 1) 0] = ws.getD (z.getD (k - 1) 0) noVal := (getD_eq (by omega)).symm
    have hwb : ws[z.getD k 0] = ws.getD (z.getD k 0) noVal := (getD_eq (by omega)).symm
    have hsu : ((List.range (k + 1 - 1)).any fun j => decide (0 < DP (matS S) (z.getD j 0) (z.getD (j + 1) 0))) = (((List.range (k - 1)).any fun j => decide (0 < DP (matS S) (z.getD j 0) (z.getD (j + 1) 0))) || decide (0 < DP (matS S) (z.getD (k - 1) 0) (z.getD k 0))) := by
      rw [show k + 1 - 1 = (k - 1) + 1 by omega, List.range_succ, List.any_append]
      rw [show z.getD k 0 = z.getD (k - 1 + 1) 0 by rw [show k - 1 + 1 = k by omega]]
      simp only [List.any_cons, List.any_nil, Bool.or_false]
    repeat' (first | refine zP ?_ | refine zA ?_ | (refine zM ?_; intro _ _) | refine zX ?_ | (refine zC ?_; intro _ _ _ _) | (refine zS ?_; intro _ _) | (apply Ws <;> intro hg))
    refine WR.idxK pairV_len (by decide) (by first | exact gN | exact gS rfl) rfl rfl hVV rfl (by omega) fun b1 o1' u1' hC1 => ?_
    rw [hwa] at hC1
    refine WR.op (by first | exact gN | exact gS rfl) rfl (OpV.loadK rfl hC1 hH1 rfl) ?_
    repeat' (first | refine zP ?_ | refine zA ?_ | (refine zM ?_; intro _ _) | refine zX ?_ | (refine zC ?_; intro _ _ _ _) | (refine zS ?_; intro _ _) | (apply Ws <;> intro hg))
    refine WR.idxK pairV_len (by decide) (by first | exact gN | exact gS rfl) rfl rfl hVV rfl (by omega) fun b2 o2' u2' hC2 => ?_
    rw [hwb] at hC2
    refine WR.op (by first | exact gN | exact gS rfl) rfl (OpV.loadK rfl hC2 hH1 rfl) ?_
    repeat' (first | refine zP ?_ | refine zA ?_ | (refine zM ?_; intro _ _) | refine zX ?_ | (refine zC ?_; intro _ _ _ _) | (refine zS ?_; intro _ _) | (apply Ws <;> intro hg))
    refine WR.call (by first | exact gN | exact gS rfl) rfl rfl (lead_fs hH1 hok ha hb (hpa.mono fun q hq => hup hq) (hta.mono fun q hq => hup hq) hpb.one_ (htb.mono fun q hq => hup hq)) ?_
    rintro _ H2 ⟨n2, hn2, hH2, rfl⟩
    clear hH1
    by_cases hd : DP (matS S) (z.getD (k - 1) 0) (z.getD k 0) < 0
    · have hcb : chB (DP (matS S)) z = false := by
        cases hc : chB (DP (matS S)) z with
        | false => rfl
        | true =>
          have := chB_iff.1 hc (k - 1) (by omega)
          rw [show k - 1 + 1 = k by omega] at this; omega
      repeat' (first | refine zP ?_ | refine zA ?_ | (refine zM ?_; intro _ _) | refine zX ?_ | (refine zC ?_; intro _ _ _ _) | (refine zS ?_; intro _ _) | refine zO ?_ | (apply Ws <;> intro hg))
      exact Ends.ret0 ⟨n2, Tl, Tb, by omega, hTl.congr (fun a b _ _ => by rw [hcb]; simp), hTb.congr (fun a b _ _ => by rw [hcb]; simp), hH2⟩
    · have hno2 : ∀ j, j + 1 < k + 1 → 0 ≤ DP (matS S) (z.getD j 0) (z.getD (j + 1) 0) := fun j hj => by
        by_cases he : j + 1 = k
        · rw [he, show j = k - 1 by omega]; omega
        · exact hno j (by omega)
      cases hst : (List.range (k - 1)).any fun j => decide (0 < DP (matS S) (z.getD j 0) (z.getD (j + 1) 0)) with
      | true =>
        rw [hst, Bool.true_or] at hsu
        repeat' (first | refine zP ?_ | refine zA ?_ | (refine zM ?_; intro _ _) | refine zX ?_ | (refine zC ?_; intro _ _ _ _) | (refine zS ?_; intro _ _) | refine zO ?_ | (apply Ws <;> intro hg))
        exact Ends.loop (k + 1, n2) (by simp only; omega) (by simp only [hsu]; exact (by repeat' (first | exact .nil | refine .cons rfl ?_))) rfl ⟨by simp only; omega, by simp only; omega, by simp only; omega, hno2, hH2⟩
      | false =>
        rw [hst, Bool.false_or] at hsu
        repeat' (first | refine zP ?_ | refine zA ?_ | (refine zM ?_; intro _ _) | refine zX ?_ | (refine zC ?_; intro _ _ _ _) | (refine zS ?_; intro _ _) | refine zO ?_ | (apply Ws <;> intro hg))
        exact Ends.loop (k + 1, n2) (by simp only; omega) (by simp only [hsu]; exact (by repeat' (first | exact .nil | refine .cons rfl ?_))) rfl ⟨by simp only; omega, by simp only; omega, by simp only; omega, hno2, hH2⟩
  · have hkz : k = z.length := by omega
    subst hkz
    have hcb : chB (DP (matS S)) z = true := chB_iff.2 hno
    have hbe : ((List.range (z.length - 1)).any fun j => decide (0 < DP (matS S) (z.getD j 0) (z.getD (j + 1) 0))) = betB (DP (matS S)) z := rfl
    rw [hbe]
    have ha := hzd.2 _ (getD_mem (a := 0) hz1)
    have hb := hzd.2 _ (getD_mem (a := 0) (show z.length - 1 < z.length by omega))
    have hlL := hTl.1
    have hlB := hTb.1
    have hTl2 := hTl.set (f' := fun a b => fl a b || (chB (DP (matS S)) z && fromTo z a b)) (a := z.getD 0 0) (b := z.getD (z.length - 1) 0) (x := true) (by omega) (by omega) (by rw [hcb, fromTo_iff.2 ⟨rfl, rfl⟩]; simp) fun p q _ _ hpq => by
      have : fromTo z p q = false := by
        cases h : fromTo z p q with
        | false => rfl
        | true => obtain ⟨k1, k2⟩ := fromTo_iff.1 h; exact absurd ⟨k1.symm, k2.symm⟩ hpq
      rw [this]; simp
    have hTb2 := hTb.set (f' := fun a b => fb a b || (chB (DP (matS S)) z && fromTo z a b && betB (DP (matS S)) z)) (a := z.getD 0 0) (b := z.getD (z.length - 1) 0) (x := (fb (z.getD 0 0) (z.getD (z.length - 1) 0) || betB (DP (matS S)) z)) (by omega) (by omega) (by rw [hcb, fromTo_iff.2 ⟨rfl, rfl⟩]; simp) fun p q _ _ hpq => by
      have : fromTo z p q = false := by
        cases h : fromTo z p q with
        | false => rfl
        | true => obtain ⟨k1, k2⟩ := fromTo_iff.1 h; exact absurd ⟨k1.symm, k2.symm⟩ hpq
      rw [this]; simp
    have hfb := hTb.2 (z.getD 0 0) (z.getD (z.length - 1) 0) (by omega) (by omega)
    generalize betB (DP (matS S)) z = bet at hTb2 ⊢
    repeat' (first | refine zP ?_ | refine zA ?_ | (refine zM ?_; intro _ _) | refine zX ?_ | (refine zC ?_; intro _ _ _ _) | (refine zS ?_; intro _ _) | (apply Ws <;> intro hg))
    refine WR.op (by first | exact gN | exact gS rfl) rfl (OpV.idxA (m := z.getD 0 0) rfl rfl rfl (by omega) (addr0 _ _ _ _)) ?_
    refine WR.op (by first | exact gN | exact gS rfl) rfl (OpV.idxA (m := z.getD (z.length - 1) 0) rfl rfl rfl (by omega) (addr1 _ _ _ _)) ?_
    repeat' (first | refine zP ?_ | refine zA ?_ | (refine zM ?_; intro _ _) | refine zX ?_ | (refine zC ?_; intro _ _ _ _) | (refine zS ?_; intro _ _) | (apply Ws <;> intro hg))
    rename_i H2 hH2
    refine WR.op (by first | exact gN | exact gS rfl) rfl (OpV.idxA (m := z.getD 0 0) rfl rfl rfl (by omega) (addr0 _ _ _ _)) ?_
    refine WR.op (by first | exact gN | exact gS rfl) rfl (OpV.idxA (m := z.getD (z.length - 1) 0) rfl rfl rfl (by omega) (addr1 _ _ _ _)) ?_
    repeat' (first | refine zP ?_ | refine zA ?_ | (refine zM ?_; intro _ _) | refine zX ?_ | (refine zC ?_; intro _ _ _ _) | (refine zS ?_; intro _ _) | (apply Ws <;> intro hg))
    rw [hfb]
    cases hfv : fb (z.getD 0 0) (z.getD (z.length - 1) 0) with
    | true =>
      rw [hfv, Bool.true_or] at hTb2
      repeat' (first | refine zP ?_ | refine zA ?_ | (refine zM ?_; intro _ _) | refine zX ?_ | (refine zC ?_; intro _ _ _ _) | (refine zS ?_; intro _ _) | (apply Ws <;> intro hg))
      refine WR.op (by first | exact gN | exact gS rfl) rfl (OpV.idxA (m := z.getD 0 0) rfl rfl rfl (by omega) (addr0 _ _ _ _)) ?_
      refine WR.op (by first | exact gN | exact gS rfl) rfl (OpV.idxA (m := z.getD (z.length - 1) 0) rfl rfl rfl (by omega) (addr1 _ _ _ _)) ?_
      repeat' (first | refine zP ?_ | refine zA ?_ | (refine zM ?_; intro _ _) | refine zX ?_ | (refine zC ?_; intro _ _ _ _) | (refine zS ?_; intro _ _) | (apply Ws <;> intro hg))
      rename_i H3 hH3
      exact Ends.end0 ⟨n1, _, _, hn1, hTl2, hTb2, hH3⟩
    | false =>
      rw [hfv, Bool.false_or] at hTb2
      repeat' (first | refine zP ?_ | refine zA ?_ | (refine zM ?_; intro _ _) | refine zX ?_ | (refine zC ?_; intro _ _ _ _) | (refine zS ?_; intro _ _) | (apply Ws <;> intro hg))
      refine WR.op (by first | exact gN | exact gS rfl) rfl (OpV.idxA (m := z.getD 0 0) rfl rfl rfl (by omega) (addr0 _ _ _ _)) ?_
      refine WR.op (by first | exact gN | exact gS rfl) rfl (OpV.idxA (m := z.getD (z.length - 1) 0) rfl rfl rfl (by omega) (addr1 _ _ _ _)) ?_
      repeat' (first | refine zP ?_ | refine zA ?_ | (refine zM ?_; intro _ _) | refine zX ?_ | (refine zC ?_; intro _ _ _ _) | (refine zS ?_; intro _ _) | (apply Ws <;> intro hg))
      rename_i H3 hH3
      exact Ends.end0 ⟨n1, _, _, hn1, hTl2, hTb2, hH3⟩
end
end Go.Proofs.Yteopjpfhhekkoaa.Tt

/- TasteRanked: the walk. -/
namespace Go.Proofs.Yteopjpfhhekkoaa.Tt
open Go Go.Abs Go.Mth
set_option linter.unusedVariables false
set_option linter.unusedSimpArgs false
theorem rkL_snoc (D : Nat → Nat → Int) (n k : Nat) : ((List.range (k + 1)).map (rkN D n)) = ((List.range k).map (rkN D n)) ++ [rkN D n k] := by simp [List.range_succ]
attribute [local irreducible] gOK WS WC WR WD Ends FS YS OpV seqK blockK loopK midK retK rdK asgK rangeEnd sat Cell
section
variable {M : HL} {n0 : Nat} {H : Heap}
set_option maxHeartbeats 8000000 in
theorem TasteRanked_fs (hH : hasH M n0 H) {xs : List Nat} (hl : xs.length = 39) (hb : ∀ x ∈ xs, x ≤ 255) :
    FS C 11 [.agg (numsK .u8 xs).toArray] H (fun e H' => e = .bool true) := by
  have ho1 := numsK_one .u8 xs
  have hxl : (numsK .u8 xs).length = 39 := by simpa using hl
  refine FS.intro (pf := pf11) rfl rfl rfl ?_
  repeat' (first | refine zP ?_ | refine zA ?_ | (refine zM ?_; intro _ _) | refine zX ?_ | (refine zC ?_; intro _ _ _ _) | (refine zS ?_; intro _ _) | (apply Ws <;> intro hg))
  rename_i H1 hH1
  clear hH
  refine WR.call (by first | exact gN | exact gS rfl) rfl rfl (made_fs hH1 hl hb (most := 5) (by omega)) ?_
  rintro _ H4 ⟨S, v, n4, M4, hSE, hSl, hn4, hH4, hS, rfl⟩
  obtain ⟨g, hg⟩ : ∃ g, 1 + xs.getD 0 0 % 3 = g := ⟨_, rfl⟩
  rw [hg] at hSE
  have hmod := Nat.mod_lt (xs.getD 1 0) (show 0 < 5 + 1 by omega)
  have hok : OKS g S := .of (by omega) (by omega) (by omega) hSE
  have hlen := hok.len
  have h0 := err0 hok
  have hlenS := hok.lens
  have hP := hok.sq
  have hml := matS_len S
  rw [hg]
  generalize M4 ++ (n0, Ch.row 61 0 0 (numsK .u8 xs)) :: M = T at hH4 hS
  clear hH1 hSE hSl hmod hg ho1 hxl hl hb
  have hv := hS.one_
  repeat' (first | refine zP ?_ | refine zA ?_ | (refine zM ?_; intro _ _) | refine zX ?_ | (refine zC ?_; intro _ _ _ _) | (refine zS ?_; intro _ _) | (apply Ws <;> intro hg))
  rename_i H5 hH5 H6 hH6
  clear hH4 hH5
  replace hH6 : hasH ((n4, Ch.row 22 0 0 [v]) :: T) (n4 + 1) H6 := hH6
  have mS : (n4, Ch.row 22 0 0 [v]) ∈ (n4, Ch.row 22 0 0 [v]) :: T := .head _
  replace hS := hS.cons (p := (n4, Ch.row 22 0 0 [v]))
  obtain ⟨n5, hn5, hn45⟩ : ∃ n5, n4 + 1 = n5 ∧ n4 ≤ n5 := ⟨_, rfl, by omega⟩
  rw [hn5] at hH6
  clear hn5
  generalize (n4, Ch.row 22 0 0 [v]) :: T = T at hH6 hS mS
  repeat' (first | refine zP ?_ | refine zA ?_ | (refine zM ?_; intro _ _) | refine zX ?_ | (refine zC ?_; intro _ _ _ _) | (refine zS ?_; intro _ _) | (apply Ws <;> intro hg))
  refine WR.call (by first | exact gN | exact gS rfl) rfl rfl (Ranks_fs hH6 hS hlenS g) ?_
  rintro e7 H7 ⟨n7, M7, hn7, hH7, hKO⟩
  obtain ⟨ku, hku, hKO⟩ := hKO.ok hok
  obtain ⟨c7, he7⟩ : ∃ c7 : Int, e7 = .tuple #[ku, .int .i64 c7] := by
    rcases hKO with ⟨_, _, h⟩ | ⟨_, h, _⟩ <;> exact ⟨_, h⟩
  subst he7
  clear hH6
  replace hS := hS.mono (M' := M7 ++ T) fun q hq => List.mem_append_right _ hq
  replace mS := List.mem_append_right M7 mS
  generalize M7 ++ T = T at hH7 hS mS hKO
  repeat' (first | refine zP ?_ | refine zA ?_ | (refine zM ?_; intro _ _) | refine zX ?_ | (refine zC ?_; intro _ _ _ _) | (refine zS ?_; intro _ _) | (apply Ws <;> intro hg))
  refine WR.call (by first | exact gN | exact gS rfl) rfl rfl (Numbers_fs hH7 hS hlenS g) ?_
  rintro e8 H8 ⟨n8, M8, hn8, hH8, hNO⟩
  obtain ⟨na, nb, hna, hnb, hNO⟩ := hNO.ok hok
  obtain ⟨c8, he8⟩ : ∃ c8 : Int, e8 = .tuple #[na, nb, .int .i64 c8] := by
    rcases hNO with ⟨_, h, _⟩ | ⟨_, _, _, h⟩ <;> exact ⟨_, h⟩
  subst he8
  clear hH7
  replace hS := hS.mono (M' := M8 ++ T) fun q hq => List.mem_append_right _ hq
  replace mS := List.mem_append_right M8 mS
  replace hKO : (tasteB (matS S) = false ∧ ku = .slice none 0 0 ∧ Value.tuple #[ku, .int .i64 c7] = .tuple #[ku, .int .i64 13]) ∨ (tasteB (matS S) = true ∧ Value.tuple #[ku, .int .i64 c7] = .tuple #[ku, .int .i64 0] ∧ Sl (M8 ++ T) 1 ku (nodes (rkL (DP (matS S)) S.length))) := by
    refine hKO.imp id (fun ⟨k1, k2, k3⟩ => ⟨k1, k2, k3.mono fun q hq => List.mem_append_right _ hq⟩)
  generalize M8 ++ T = T at hH8 hS mS hKO hNO
  repeat' (first | refine zP ?_ | refine zA ?_ | (refine zM ?_; intro _ _) | refine zX ?_ | (refine zC ?_; intro _ _ _ _) | (refine zS ?_; intro _ _) | (apply Ws <;> intro hg))
  refine WR.call (by first | exact gN | exact gS rfl) rfl rfl (ringed_fs hH8 hok hS) ?_
  rintro _ H9 ⟨n9, hn9, hH9, rfl⟩
  clear hH8
  have hfin : ∀ {H' : Heap}, FS C 16 [] H' (fun e H'' => e = .bool true ∧ H'' = H') := fun {H'} => FS.works ⟨rfl, rfl⟩
  cases htb : tasteB (matS S) with
  | false =>
    rw [htb] at hKO hNO
    rcases hKO with ⟨_, rfl, hce⟩ | ⟨hf, _⟩
    · rcases hNO with ⟨hf, _⟩ | ⟨_, rfl, rfl, hcn⟩
      · cases hf
      · obtain rfl : c7 = 13 := by simpa using hce
        obtain rfl : c8 = 13 := by simpa using hcn
        repeat' (first | refine zP ?_ | refine zA ?_ | (refine zM ?_; intro _ _) | refine zX ?_ | (refine zC ?_; intro _ _ _ _) | (refine zS ?_; intro _ _) | refine zO ?_ | (apply Ws <;> intro hg))
        refine WR.call (by first | exact gN | exact gS rfl) rfl rfl hfin ?_
        rintro _ _ ⟨rfl, rfl⟩
        repeat' (first | refine zP ?_ | refine zA ?_ | (refine zM ?_; intro _ _) | refine zX ?_ | (refine zC ?_; intro _ _ _ _) | (refine zS ?_; intro _ _) | refine zO ?_ | (apply Ws <;> intro hg))
        exact Ends.ret1 rfl rfl
    · cases hf
  | true =>
    have hnr := tasteB_iff.1 htb
    rw [hml] at hnr
    rw [htb] at hKO hNO
    rcases hKO with ⟨hf, _⟩ | ⟨_, hce, hSk⟩
    · cases hf
    · rcases hNO with ⟨_, hcn, W, V, hrg, hnp, hSa, hSb⟩ | ⟨hf, _⟩
      · obtain rfl : c7 = 0 := by simpa using hce
        obtain rfl : c8 = 0 := by simpa using hcn
        have hWl : W.length = S.length := hrg.1
        have hVl : V.length = S.length := hrg.2.1
        repeat' (first | refine zP ?_ | refine zA ?_ | (refine zM ?_; intro _ _) | refine zX ?_ | (refine zC ?_; intro _ _ _ _) | (refine zS ?_; intro _ _) | refine zO ?_ | (apply Ws <;> intro hg))
        refine WR.call (by first | exact gN | exact gS rfl) rfl rfl (numbered_fs hH9 hok hS hSa hSb (by omega) (by omega)) ?_
        rintro _ H10 ⟨n10, bb, hn10, hH10, hbb, rfl⟩
        obtain rfl : bb = true := hbb.2 ⟨hrg, hnp⟩
        clear hH9
        obtain ⟨ws0, hV0, hwl0, hrow0⟩ := hS.at
        repeat' (first | refine zP ?_ | refine zA ?_ | (refine zM ?_; intro _ _) | refine zX ?_ | (refine zC ?_; intro _ _ _ _) | (refine zS ?_; intro _ _) | refine zO ?_ | (apply Ws <;> intro hg))
        refine WR.op (by first | exact gN | exact gS rfl) rfl (OpV.lenK pairV_len (by decide) rfl hV0) ?_
        rw [hwl0]
        repeat' (first | refine zP ?_ | refine zA ?_ | (refine zM ?_; intro _ _) | refine zX ?_ | (refine zC ?_; intro _ _ _ _) | (refine zS ?_; intro _ _) | (apply Ws <;> intro hg))
        rename_i H11 hH11 H12 hH12
        replace hH12 : hasH ([(n10 + 1, Ch.row 80 0 0 (bools (List.replicate 36 false))), (n10, Ch.row 80 0 0 (bools (List.replicate 36 false)))] ++ T) (n10 + 1 + 1) H12 := hH12
        refine WR.call (by first | exact gN | exact gS rfl) rfl rfl (all_fs (N := S.length) (g := 53) (vb := [ptrT n4, ptrT n10, ptrT (n10 + 1)]) hlen hH12
          (J := fun zs Mc X => ∃ ds Tl Tb, ds ++ zs = preL S.length S.length [] ∧ TabB Tl (anyL (DP (matS S)) ds) ∧ TabB Tb (anyS (DP (matS S)) ds) ∧ Mc = [(n10 + 1, Ch.row 80 0 0 (bools Tb)), (n10, Ch.row 80 0 0 (bools Tl))])
          ⟨[], _, _, rfl, TabB.zero, TabB.zero, rfl⟩ (fun zs Mc X X' h _ => h) ?_) ?_
        · rintro z zs Mc X' u n' H' ⟨ds, Tl, Tb, hds, hTl, hTb, rfl⟩ hz0 hzd hZ hX hH'
          refine FS.mono (ranked1_fs hok (hS.mono hX) (hX _ mS) hTl hTb hz0 hzd hZ hH') ?_
          rintro _ H2 ⟨n2, Tl2, Tb2, hn2, hTl2, hTb2, hH2⟩
          exact ⟨_, X', n2, hn2, fun q hq => hq, ⟨ds ++ [z], Tl2, Tb2, by rw [← hds]; simp, hTl2.congr (fun a b _ _ => (anyL_snoc _ _ _ _ _).symm), hTb2.congr (fun a b _ _ => (anyS_snoc _ _ _ _ _).symm), rfl⟩, hH2⟩
        · rintro _ H13 ⟨Mc2, X2, n13, hn13, hX2, ⟨ds, Tl, Tb, hds, hTl, hTb, rfl⟩, hH13⟩
          rw [List.append_nil] at hds
          subst hds
          clear hH10 hH11 hH12 hV0 hrow0 hwl0
          replace hSk := hSk.mono (M' := (n10 + 1, Ch.row 80 0 0 (bools Tb)) :: (n10, Ch.row 80 0 0 (bools Tl)) :: X2) fun q hq => .tail _ (.tail _ (hX2 _ hq))
          replace hSa := hSa.mono (M' := (n10 + 1, Ch.row 80 0 0 (bools Tb)) :: (n10, Ch.row 80 0 0 (bools Tl)) :: X2) fun q hq => .tail _ (.tail _ (hX2 _ hq))
          have hVpos : ∀ a, a < S.length → 1 ≤ V.getD a 0 := fun a ha => (hrg.2.2.2 a ha).1
          have hnum : numOK (DP (matS S)) S.length (fun a => W.getD a 0) (fun a => V.getD a 0) := by have := hnp; unfold NumP at this; rwa [hml] at this
          have hbt : ∀ a b, a < S.length → b < S.length → Tb.getD (a * 6 + b) false = BTb (DP (matS S)) S.length a b := fun a b ha hb => by rw [hTb.2 a b (by omega) (by omega), anyS_all]
          have hbeat : ∀ a b, BTb (DP (matS S)) S.length a b = true → W.getD b 0 < W.getD a 0 := fun a b h => num_bt hVpos hnum (BTb_iff.1 h)
          have hlead : ∀ a b, a < S.length → b < S.length → Tl.getD (a * 6 + b) false = true → W.getD b 0 ≤ W.getD a 0 := fun a b ha hb h => by
            rw [hTl.2 a b (by omega) (by omega), anyL_all] at h
            exact num_rt hVpos hnum h
          have hlT := hTl.1
          have hlB := hTb.1
          clear hTl hTb hnum hnp hVpos hrg hSb mS hS
          replace hH13 : hasH ((n10 + 1, Ch.row 80 0 0 (bools Tb)) :: (n10, Ch.row 80 0 0 (bools Tl)) :: X2) n13 H13 := hH13
          repeat' (first | refine zP ?_ | refine zA ?_ | (refine zM ?_; intro _ _) | refine zX ?_ | (refine zC ?_; intro _ _ _ _) | (refine zS ?_; intro _ _) | (apply Ws <;> intro hg))
          refine WC.loopX [(5, ku), (7, na), (10, .int .i64 (S.length : Int)), (11, .pointer (some ⟨n10, 0, some 0⟩)), (12, .pointer (some ⟨n10 + 1, 0, some 0⟩)), (69, .int .i64 (S.length : Int))] (fun s : CI => [(13, s.v), (70, .int .i64 (s.b : Int))]) [] (fun s H' => s.b ≤ S.length ∧ Own 3 1 s.v (nodes ((List.range s.b).map (rkN (DP (matS S)) S.length))) s.Mr ∧ hasH ((n10 + 1, Ch.row 80 0 0 (bools Tb)) :: (n10, Ch.row 80 0 0 (bools Tl)) :: (s.Mr ++ X2)) s.n H') (fun s => S.length - s.b) ⟨0, .slice none 0 0, [], [], n13⟩ (by repeat' (first | exact .nil | refine .cons rfl ?_)) rfl
            ⟨Nat.zero_le _, .nil, hH13⟩ ?_
          clear hH13
          rintro ⟨a, va, Mr, _, n14⟩ H14 ⟨ha, hO, hH14⟩
          simp only at ha hO hH14
          dsimp only [List.cons_append, List.nil_append]
          repeat' (first | refine zP ?_ | refine zA ?_ | (refine zM ?_; intro _ _) | refine zX ?_ | (refine zC ?_; intro _ _ _ _) | (refine zS ?_; intro _ _) | (apply Ws <;> intro hg))
          refine WC.condP rfl (fun hlta => ?_) (fun hlta => ?_)
          · have ha' : a < S.length := by omega
            have hSa14 : Sl ((n10 + 1, Ch.row 80 0 0 (bools Tb)) :: (n10, Ch.row 80 0 0 (bools Tl)) :: (Mr ++ X2)) 1 na (ints W) := hSa.mono fun q hq => by
              rcases List.mem_cons.1 hq with rfl | hq
              · exact .head _
              · rcases List.mem_cons.1 hq with rfl | hq
                · exact .tail _ (.head _)
                · exact .tail _ (.tail _ (List.mem_append_right _ hq))
            repeat' (first | refine zP ?_ | refine zA ?_ | (refine zM ?_; intro _ _) | refine zX ?_ | (refine zC ?_; intro _ _ _ _) | (refine zS ?_; intro _ _) | (apply Ws <;> intro hg))
            refine WC.loopX [(5, ku), (7, na), (10, .int .i64 (S.length : Int)), (11, .pointer (some ⟨n10, 0, some 0⟩)), (12, .pointer (some ⟨n10 + 1, 0, some 0⟩)), (13, va), (14, .int .i64 (a : Int)), (69, .int .i64 (S.length : Int)), (70, .int .i64 (a : Int)), (73, .int .i64 (S.length : Int))] (fun k : Nat => [(15, .int .i64 (cntB (DP (matS S)) S.length a k : Nat)), (74, .int .i64 (k : Int))]) [] (fun k H' => H' = H14 ∧ k ≤ S.length) (fun k => S.length - k) 0 (by repeat' (first | exact .nil | refine .cons rfl ?_)) rfl ⟨rfl, Nat.zero_le _⟩ ?_
            rintro b H15 ⟨rfl, hb⟩
            have hcl := cntB_le (DP (matS S)) S.length a b
            have hcs := cntB_succ (DP (matS S)) S.length a b
            dsimp only [List.cons_append, List.nil_append]
            repeat' (first | refine zP ?_ | refine zA ?_ | (refine zM ?_; intro _ _) | refine zX ?_ | (refine zC ?_; intro _ _ _ _) | (refine zS ?_; intro _ _) | (apply Ws <;> intro hg))
            refine WC.condP rfl (fun hltb => ?_) (fun hltb => ?_)
            · have hb' : b < S.length := by omega
              have hbt1 := hbt a b ha' hb'
              have hbe1 := hbeat a b
              have hle1 := hlead a b ha' hb'
              have hle2 := hlead b a hb' ha'
              have hgo : ∀ {K : St → Prop}, True := fun {K} => trivial
              clear hgo
              repeat' (first | refine zP ?_ | refine zA ?_ | (refine zM ?_; intro _ _) | refine zX ?_ | (refine zC ?_; intro _ _ _ _) | (refine zS ?_; intro _ _) | (apply Ws <;> intro hg))
              rw [hbt1]
              cases hB : BTb (DP (matS S)) S.length a b with
              | true =>
                rw [hB, if_pos rfl] at hcs
                have hw1 := hbe1 hB
                have hsub : ¬ W.getD a 0 ≤ W.getD b 0 := by omega
                repeat' (first | refine zP ?_ | refine zA ?_ | (refine zM ?_; intro _ _) | refine zX ?_ | (refine zC ?_; intro _ _ _ _) | (refine zS ?_; intro _ _) | (apply Ws <;> intro hg))
                rw [hbt1, hB]
                repeat' (first | refine zP ?_ | refine zA ?_ | (refine zM ?_; intro _ _) | refine zX ?_ | (refine zC ?_; intro _ _ _ _) | (refine zS ?_; intro _ _) | refine zO ?_ | (apply Ws <;> intro hg))
                cases hL1 : Tl.getD (a * 6 + b) false with
                | true =>
                  have hsub2 : ¬ W.getD a 0 < W.getD b 0 := by omega
                  repeat' (first | refine zP ?_ | refine zA ?_ | (refine zM ?_; intro _ _) | refine zX ?_ | (refine zC ?_; intro _ _ _ _) | (refine zS ?_; intro _ _) | refine zO ?_ | (apply Ws <;> intro hg))
                  rw [hL1]
                  repeat' (first | refine zP ?_ | refine zA ?_ | (refine zM ?_; intro _ _) | refine zX ?_ | (refine zC ?_; intro _ _ _ _) | (refine zS ?_; intro _ _) | refine zO ?_ | (apply Ws <;> intro hg))
                  cases hL2 : Tl.getD (b * 6 + a) false with
                  | true => have := hle2 hL2; omega
                  | false =>
                    repeat' (first | refine zP ?_ | refine zA ?_ | (refine zM ?_; intro _ _) | refine zX ?_ | (refine zC ?_; intro _ _ _ _) | (refine zS ?_; intro _ _) | refine zO ?_ | (apply Ws <;> intro hg))
                    exact Ends.loop (b + 1) (by omega) (by simp only [hcs]; exact (by repeat' (first | exact .nil | refine .cons rfl ?_))) rfl ⟨rfl, by omega⟩
                | false =>
                  repeat' (first | refine zP ?_ | refine zA ?_ | (refine zM ?_; intro _ _) | refine zX ?_ | (refine zC ?_; intro _ _ _ _) | (refine zS ?_; intro _ _) | refine zO ?_ | (apply Ws <;> intro hg))
                  rw [hL1]
                  repeat' (first | refine zP ?_ | refine zA ?_ | (refine zM ?_; intro _ _) | refine zX ?_ | (refine zC ?_; intro _ _ _ _) | (refine zS ?_; intro _ _) | refine zO ?_ | (apply Ws <;> intro hg))
                  exact Ends.loop (b + 1) (by omega) (by simp only [hcs]; exact (by repeat' (first | exact .nil | refine .cons rfl ?_))) rfl ⟨rfl, by omega⟩
              | false =>
                rw [hB, if_neg (by simp)] at hcs
                repeat' (first | refine zP ?_ | refine zA ?_ | (refine zM ?_; intro _ _) | refine zX ?_ | (refine zC ?_; intro _ _ _ _) | (refine zS ?_; intro _ _) | (apply Ws <;> intro hg))
                rw [hbt1, hB]
                repeat' (first | refine zP ?_ | refine zA ?_ | (refine zM ?_; intro _ _) | refine zX ?_ | (refine zC ?_; intro _ _ _ _) | (refine zS ?_; intro _ _) | refine zO ?_ | (apply Ws <;> intro hg))
                cases hL1 : Tl.getD (a * 6 + b) false with
                | true =>
                  have hw1 := hle1 hL1
                  have hsub : ¬ W.getD a 0 < W.getD b 0 := by omega
                  repeat' (first | refine zP ?_ | refine zA ?_ | (refine zM ?_; intro _ _) | refine zX ?_ | (refine zC ?_; intro _ _ _ _) | (refine zS ?_; intro _ _) | refine zO ?_ | (apply Ws <;> intro hg))
                  rw [hL1]
                  repeat' (first | refine zP ?_ | refine zA ?_ | (refine zM ?_; intro _ _) | refine zX ?_ | (refine zC ?_; intro _ _ _ _) | (refine zS ?_; intro _ _) | refine zO ?_ | (apply Ws <;> intro hg))
                  cases hL2 : Tl.getD (b * 6 + a) false with
                  | true =>
                    have hw2 := hle2 hL2
                    have hsub2 : W.getD a 0 = W.getD b 0 := by omega
                    repeat' (first | refine zP ?_ | refine zA ?_ | (refine zM ?_; intro _ _) | refine zX ?_ | (refine zC ?_; intro _ _ _ _) | (refine zS ?_; intro _ _) | refine zO ?_ | (apply Ws <;> intro hg))
                    exact Ends.loop (b + 1) (by omega) (by simp only [hcs]; exact (by repeat' (first | exact .nil | refine .cons rfl ?_))) rfl ⟨rfl, by omega⟩
                  | false =>
                    repeat' (first | refine zP ?_ | refine zA ?_ | (refine zM ?_; intro _ _) | refine zX ?_ | (refine zC ?_; intro _ _ _ _) | (refine zS ?_; intro _ _) | refine zO ?_ | (apply Ws <;> intro hg))
                    exact Ends.loop (b + 1) (by omega) (by simp only [hcs]; exact (by repeat' (first | exact .nil | refine .cons rfl ?_))) rfl ⟨rfl, by omega⟩
                | false =>
                  repeat' (first | refine zP ?_ | refine zA ?_ | (refine zM ?_; intro _ _) | refine zX ?_ | (refine zC ?_; intro _ _ _ _) | (refine zS ?_; intro _ _) | refine zO ?_ | (apply Ws <;> intro hg))
                  rw [hL1]
                  repeat' (first | refine zP ?_ | refine zA ?_ | (refine zM ?_; intro _ _) | refine zX ?_ | (refine zC ?_; intro _ _ _ _) | (refine zS ?_; intro _ _) | refine zO ?_ | (apply Ws <;> intro hg))
                  exact Ends.loop (b + 1) (by omega) (by simp only [hcs]; exact (by repeat' (first | exact .nil | refine .cons rfl ?_))) rfl ⟨rfl, by omega⟩
            · have hbl : b = S.length := by omega
              subst hbl
              rw [show cntB (DP (matS S)) S.length a S.length = rkN (DP (matS S)) S.length a from rfl] at hcl ⊢
              repeat' (first | refine zP ?_ | refine zA ?_ | (refine zM ?_; intro _ _) | refine zX ?_ | (refine zC ?_; intro _ _ _ _) | (refine zS ?_; intro _ _) | (apply Ws <;> intro hg))
              refine WR.append1F [(n10 + 1, .row 80 0 0 (bools Tb)), (n10, .row 80 0 0 (bools Tl))] Mr X2 rfl rfl rfl rfl hO hH14 (new := [.int .i64 (rkN (DP (matS S)) S.length a : Nat)]) (by rfl) rfl rfl (Nat.le_refl _) (by omega) (by simp; omega) fun v3 M3 n3 H9 hO3 hH9 hn3 => ?_
              repeat' (first | refine zP ?_ | refine zA ?_ | (refine zM ?_; intro _ _) | refine zX ?_ | (refine zC ?_; intro _ _ _ _) | (refine zS ?_; intro _ _) | (apply Ws <;> intro hg))
              refine Ends.loop ⟨a + 1, v3, M3, [], n3⟩ (by simp only; omega) (by repeat' (first | exact .nil | refine .cons rfl ?_)) rfl ⟨by simp only; omega, ?_, hH9⟩
              simp only
              rw [rkL_snoc, nodes, List.map_append]; exact hO3
          · have hal : a = S.length := by omega
            subst hal
            have hSw := (hO.sl X2).mono (M' := (n10 + 1, Ch.row 80 0 0 (bools Tb)) :: (n10, Ch.row 80 0 0 (bools Tl)) :: (Mr ++ X2)) fun q hq => .tail _ (.tail _ hq)
            have hSk14 : Sl ((n10 + 1, Ch.row 80 0 0 (bools Tb)) :: (n10, Ch.row 80 0 0 (bools Tl)) :: (Mr ++ X2)) 1 ku (nodes (rkL (DP (matS S)) S.length)) := hSk.mono fun q hq => by
              rcases List.mem_cons.1 hq with rfl | hq
              · exact .head _
              · rcases List.mem_cons.1 hq with rfl | hq
                · exact .tail _ (.head _)
                · exact .tail _ (.tail _ (List.mem_append_right _ hq))
            repeat' (first | refine zP ?_ | refine zA ?_ | (refine zM ?_; intro _ _) | refine zX ?_ | (refine zC ?_; intro _ _ _ _) | (refine zS ?_; intro _ _) | (apply Ws <;> intro hg))
            refine WR.call (by first | exact gN | exact gS rfl) rfl rfl (sameN_fs hH14 hSk14 hSw (by simp [rkL]; omega)) ?_
            rintro _ _ ⟨rfl, rfl⟩
            rw [decide_eq_true (show rkL (DP (matS S)) S.length = List.map (rkN (DP (matS S)) S.length) (List.range S.length) from rfl)]
            repeat' (first | refine zP ?_ | refine zA ?_ | (refine zM ?_; intro _ _) | refine zX ?_ | (refine zC ?_; intro _ _ _ _) | (refine zS ?_; intro _ _) | (apply Ws <;> intro hg))
            refine WR.call (by first | exact gN | exact gS rfl) rfl rfl hfin ?_
            rintro _ _ ⟨rfl, rfl⟩
            repeat' (first | refine zP ?_ | refine zA ?_ | (refine zM ?_; intro _ _) | refine zX ?_ | (refine zC ?_; intro _ _ _ _) | (refine zS ?_; intro _ _) | (apply Ws <;> intro hg))
            exact Ends.ret1 rfl rfl
      · cases hf
end
end Go.Proofs.Yteopjpfhhekkoaa.Tt

/- A function prepared, with what must come before closed in fewer rounds: the same. -/
namespace Go.Abs
open Go
set_option linter.unusedVariables false
def memF (a : Nat) : List Nat → Bool
  | [] => false
  | b :: l => bif Nat.beq a b then true else memF a l
theorem memF_eq (a : Nat) : ∀ l : List Nat, memF a l = l.contains a
  | [] => rfl
  | b :: l => by
    rw [memF, memF_eq a l, List.contains_cons]
    by_cases h : a = b
    · subst h; rw [Nat.beq_refl]; simp
    · have : Nat.beq a b = false := by
        cases k : Nat.beq a b with
        | false => rfl
        | true => exact absurd (Nat.eq_of_beq_eq_true k) h
      rw [this, beq_eq_false_iff_ne.2 h]; rfl
def addF : List Nat → List Nat → List Nat
  | [], acc => acc
  | k :: l, acc => addF l (bif memF k acc then acc else k :: acc)
theorem addF_eq : ∀ (l acc : List Nat), addF l acc = l.foldl (fun acc k => bif acc.contains k then acc else k :: acc) acc
  | [], acc => rfl
  | k :: l, acc => by rw [addF, addF_eq l, memF_eq, List.foldl_cons]
def nthF : List (List Nat) → Nat → List Nat
  | [], _ => []
  | x :: _, 0 => x
  | _ :: l, n + 1 => nthF l n
theorem nthF_eq : ∀ (l : List (List Nat)) (n : Nat), nthF l n = l.getD n []
  | [], n => by simp [nthF]
  | x :: l, 0 => by simp [nthF]
  | x :: l, n + 1 => by rw [nthF, nthF_eq l n]; simp
def roundF (deps : List (List Nat)) : List Nat → List Nat → List Nat
  | [], acc => acc
  | j :: l, acc => roundF deps l (addF (nthF deps j) acc)
theorem roundF_eq (deps : List (List Nat)) : ∀ (l acc : List Nat), roundF deps l acc = l.foldl (fun acc j => (deps.getD j []).foldl (fun acc k => bif acc.contains k then acc else k :: acc) acc) acc
  | [], acc => rfl
  | j :: l, acc => by rw [roundF, roundF_eq deps l, addF_eq, nthF_eq, List.foldl_cons]
theorem addF_suf : ∀ (l acc : List Nat), acc.length ≤ (addF l acc).length ∧ ((addF l acc).length = acc.length → addF l acc = acc)
  | [], acc => ⟨Nat.le_refl _, fun _ => rfl⟩
  | k :: l, acc => by
    rw [addF]
    cases h : memF k acc with
    | true => exact addF_suf l acc
    | false =>
      have ih := addF_suf l (k :: acc)
      rw [List.length_cons] at ih
      exact ⟨by simp only [cond_false]; omega, fun h2 => by simp only [cond_false] at h2; omega⟩
theorem roundF_suf (deps : List (List Nat)) : ∀ (l acc : List Nat), acc.length ≤ (roundF deps l acc).length ∧ ((roundF deps l acc).length = acc.length → roundF deps l acc = acc)
  | [], acc => ⟨Nat.le_refl _, fun _ => rfl⟩
  | j :: l, acc => by
    rw [roundF]
    have h1 := addF_suf (nthF deps j) acc
    have h2 := roundF_suf deps l (addF (nthF deps j) acc)
    refine ⟨by omega, fun h => ?_⟩
    have h3 := h1.2 (by omega)
    rw [h3] at h2 h ⊢
    exact h2.2 h
def lenF : List Nat → List Nat → Bool
  | [], [] => true
  | _ :: l, _ :: m => lenF l m
  | _, _ => false
theorem lenF_eq : ∀ l m : List Nat, lenF l m = true → l.length = m.length
  | [], [], _ => rfl
  | _ :: l, _ :: m, h => by rw [List.length_cons, List.length_cons, lenF_eq l m h]
  | [], _ :: _, h => by cases h
  | _ :: _, [], h => by cases h
/-- As closeDeps; it stops when a round adds nothing. -/
def closeF (deps : List (List Nat)) : Nat → List Nat → List Nat
  | 0, l => l
  | f + 1, l => (fun l2 => bif lenF l2 l then l else closeF deps f l2) (roundF deps l l)
theorem closeDeps_fix {deps : List (List Nat)} {l : List Nat} (h : roundF deps l l = l) : ∀ f, closeDeps deps f l = l
  | 0 => rfl
  | f + 1 => by
    rw [closeDeps, ← roundF_eq, h]; exact closeDeps_fix h f
theorem closeF_eq (deps : List (List Nat)) : ∀ (f : Nat) (l : List Nat), closeF deps f l = closeDeps deps f l
  | 0, l => rfl
  | f + 1, l => by
    rw [closeF]
    simp only []
    cases h : lenF (roundF deps l l) l with
    | true =>
      have h1 := (roundF_suf deps l l).2 (lenF_eq _ _ h)
      rw [cond_true, closeDeps_fix h1]
    | false =>
      rw [cond_false, closeF_eq deps f, closeDeps, ← roundF_eq]
def prepRegionF (P : Program) (ops : Array Oper) (draw : Bool) : Option (List POp) :=
  let n := ops.size
  let all := List.range n
  bif draw then
    let deps := ops.toList.map depsOf
    let aops := ops.toList.map (prepOpN P)
    let eff (i : Nat) : Bool := effect (aops.getD i .never)
    let closed := deps.map (closeF deps n)
    match prepDraw P ops aops deps closed (orderOf deps eff all n []) with
    | some l => some l
    | none => prepDraw P ops aops deps closed (orderLate deps eff (fun i => lateA (aops.getD i .never)) all n [])
  else prepOps P ops (fun _ => []) all
theorem prepRegionF_eq (P : Program) (ops : Array Oper) (draw : Bool) : prepRegionF P ops draw = prepRegion P ops draw := by
  unfold prepRegionF prepRegion
  have : ∀ deps : List (List Nat), closeF deps ops.size = closeDeps deps ops.size := fun deps => funext fun l => closeF_eq deps _ l
  simp only [this]
  rfl
def prepCF (P : Program) : Code → Option PC
  | .skip => some .skip
  | .region _ ops draw => (match prepRegionF P ops draw with | some l => some (.region draw l) | none => none)
  | .seq a b => (match prepCF P a, prepCF P b with | some x, some y => some (.seq x y) | _, _ => none)
  | .cond c a b => (match prepCF P a, prepCF P b with | some x, some y => bif opdOK c then some (.cond c x y) else none | _, _ => none)
  | .block id b => (match prepCF P b with | some x => some (.block id x) | none => none)
  | .loop b => (match prepCF P b with | some x => some (.loop x) | none => none)
  | .rangeFunc f ps a b => (match prepCF P a, prepCF P b with | some x, some y => bif opdOK f then some (.rangeFunc f ps.toList x y) else none | _, _ => none)
  | .exit id => some (.exit id)
  | .scope b => (match prepCF P b with | some x => some (.scope x) | none => none)
  | .label l => some (.label l)
  | .goto l => some (.goto l)
  | .ret => some .ret
  | .refuse _ => none
theorem prepCF_eq (P : Program) : ∀ c : Code, prepCF P c = prepC P c
  | .skip => rfl
  | .region _ ops draw => by rw [prepCF, prepC, prepRegionF_eq]; try rfl
  | .seq a b => by rw [prepCF, prepC, prepCF_eq P a, prepCF_eq P b]; try rfl
  | .cond c a b => by rw [prepCF, prepC, prepCF_eq P a, prepCF_eq P b]; try rfl
  | .block id b => by rw [prepCF, prepC, prepCF_eq P b]; try rfl
  | .loop b => by rw [prepCF, prepC, prepCF_eq P b]; try rfl
  | .rangeFunc f ps a b => by rw [prepCF, prepC, prepCF_eq P a, prepCF_eq P b]; try rfl
  | .exit id => rfl
  | .scope b => by rw [prepCF, prepC, prepCF_eq P b]; try rfl
  | .label l => rfl
  | .goto l => rfl
  | .ret => rfl
  | .refuse _ => rfl
def prepFF (P : Program) (f : FuncId) : Option PF :=
  match P.funcs[f]? with
  | none => none
  | some fn => match fn.body with
    | none => none
    | some b => match prepCF P b, prepRes P fn.results.toList with
      | some c, some r => bif fn.name == "runtime.NumGoroutine" then none else some { nt := fn.ntmps, body := c, results := r }
      | _, _ => none
theorem prepFF_eq (P : Program) (f : FuncId) : prepFF P f = prepF P f := by
  unfold prepFF prepF
  simp only [prepCF_eq]
  rfl
end Go.Abs
