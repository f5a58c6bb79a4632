/- Slices that are read; slices of one's own; deferred things; rounds of ranges over functions. -/
import Derived.Test.YtdlfikobjnjmaaaSym3
namespace Go.Abs
set_option linter.unusedSectionVars false
variable [Globs]
open Go
set_option linter.unusedVariables false
set_option linter.unusedSimpArgs false

/-- A slice whose cells are these. -/
inductive Sl (M : HL) (sz : Nat) : Value → List Value → Prop where
  | nil (c : Nat) : Sl M sz (.slice none 0 c) []
  /-- Empty, and not nil: wherever it lies. -/
  | emp (a : Addr) : Sl M sz (.slice (some a) 0 (2 * sz)) []
  | row {b o u lo len cap : Nat} {ch : Ch} {cs l : List Value} (hm : (b, ch) ∈ M) (hc : ch.cellsAre u lo cs) (hlo : lo ≤ o) (hl : l.length = len * sz) (hv : (cs.drop (o - lo)).take l.length = l) (hin : o - lo + l.length ≤ cs.length) (hcap : (cap = 2 * sz ∨ ∃ r, cap = roomCode sz r ∧ len ≤ r) ∨ ∃ c, cap = 2 * c + 1 ∧ len ≤ c) :
      Sl M sz (.slice (some ⟨b, o, some u⟩) len cap) l

/-- What a cell holds. -/
def Cell (M : HL) (b o u : Nat) (v : Value) : Prop := ∃ ch lo cs, (b, ch) ∈ M ∧ ch.cellsAre u lo cs ∧ lo ≤ o ∧ cs[o - lo]? = some v

theorem Sl.mono {M M' : HL} {sz : Nat} {v : Value} {l : List Value} (h : Sl M sz v l) (k : ∀ p ∈ M, p ∈ M') : Sl M' sz v l := by
  cases h with
  | nil c => exact .nil c
  | emp a => exact .emp a
  | row hm hc hlo hl hv hin hp => exact .row (k _ hm) hc hlo hl hv hin hp

theorem Sl.cons {M : HL} {p : Nat × Ch} {sz : Nat} {v : Value} {l : List Value} (h : Sl M sz v l) : Sl (p :: M) sz v l := h.mono (fun q hq => List.mem_cons_of_mem _ hq)

section
variable {C : CW} {ro : Option Nat} {fn : FuncId} {nt : Nat} {L L' : Env} {D : List Nat} {H H' : Heap} {K : St → Prop} {M M' : HL} {n : Nat}

theorem OpV.loadC {x : Operand} {b o u : Nat} {v : Value} (hx : ev L x = some (.pointer (some ⟨b, o, some u⟩))) (hc : Cell M b o u v) (hH : hasH M n H) : OpV C (.load1 x) L H v H := by
  obtain ⟨ch, lo, cs, h1, h2, h3, h4⟩ := hc
  exact OpV.load1 hx hH h1 h2 h3 h4

theorem Sl.one_ {sz : Nat} {v : Value} {l : List Value} (h : Sl M sz v l) : one v = true := by cases h <;> rfl

theorem Sl.len {v : Value} {l : List Value} (h : Sl M 1 v l) : ∃ a c, v = .slice a l.length c := by
  cases h with
  | nil c => exact ⟨none, c, rfl⟩
  | emp a => exact ⟨_, _, rfl⟩
  | row hm hc hlo hl hv hin hp => exact ⟨_, _, by rw [hl, Nat.mul_one]⟩

theorem OpV.lenS {x : Operand} {v : Value} {l : List Value} (hx : ev L x = some v) (hS : Sl M 1 v l) : OpV C (.len x) L H (.int .i64 (l.length : Int)) H := by
  obtain ⟨a, c, rfl⟩ := hS.len
  exact OpV.len hx

theorem OpV.lenSI {x : Operand} {v : Value} {xs : List Int} (hx : ev L x = some v) (hS : Sl M 1 v (xs.map (Value.int .i64))) : OpV C (.len x) L H (.int .i64 (xs.length : Int)) H := by
  have := OpV.lenS (C := C) (H := H) hx hS
  rwa [List.length_map] at this

theorem WR.idxSl {i d : Nat} {x ix : Operand} {kd : IntKind} {j : Int} {m : Nat} {v c : Value} {cs : List Value} {lo : List Nat} {l : List POp} {gd : Option (Tmp × Bool)} (hg : gOK L gd) (hd : Nat.blt d nt = true) (hx : ev L x = some v) (hS : Sl M 1 v cs) (hi : ev L ix = some (.int kd j)) (hj : j = (m : Int))
    (hm : cs[m]? = some c) (k : ∀ b o u, Cell M b o u c → WR C nt l ((d, .pointer (some ⟨b, o, some u⟩)) :: L) D H K) : WR C nt (⟨i, some d, .idxS x ix 1, gd, lo⟩ :: l) L D H K := by
  have hlt : m < cs.length := by
    rcases Nat.lt_or_ge m cs.length with h | h
    · exact h
    · rw [List.getElem?_eq_none h] at hm; cases hm
  cases hS with
  | nil c => simp at hlt
  | emp a => simp at hlt
  | row hm2 hc hlo hl hv hin hp =>
    rename_i b o u lo' len cap ch cs'
    refine WR.op hg hd (OpV.idxS hx hi hj (by omega) (addr1 _ _ _ _)) (k _ _ _ ⟨ch, lo', cs', hm2, hc, by omega, ?_⟩)
    rw [← hv, List.getElem?_take_of_lt hlt, List.getElem?_drop] at hm
    rw [← hm]; congr 1; omega
theorem WD.new {i d : Nat} {e : TypeId} {z : List Value} {lo : List Nat} {l : List POp} {rs : List Rd} (hd : Nat.blt d nt = true) (hH : hasH M n H) (hz : z.all one = true)
    (hs : ∀ H', hasH ((n, .row e 0 0 z) :: M) (n + 1) H' → stands H' lo rs = true)
    (k : ∀ H', hasH ((n, .row e 0 0 z) :: M) (n + 1) H' → WD C nt l rs ((d, .pointer (some ⟨n, 0, some 0⟩)) :: L) D H' K) : WD C nt (⟨i, some d, .new e z, none, lo⟩ :: l) rs L D H K := by
  have h2 := hH.row e hz
  refine WD.op True.intro hd (H' := H.row e z) (v := .pointer (some ⟨n, 0, some 0⟩)) (fun t ht => ?_) rfl (hs _ h2) (k _ h2)
  simp only [opA, oNew, newAddr, hH.next]

/-! ### Slices of one's own -/

/-- Nil, or a row to whose end it goes, that nobody else looks at. -/
inductive Own (e sz : Nat) : Value → List Value → HL → Prop where
  | nil : Own e sz (.slice none 0 0) [] []
  | row {b u o len : Nat} {cs : List Value} (hl : cs.length = len * sz) : Own e sz (.slice (some ⟨b, o, some u⟩) len (2 * sz)) cs [(b, .row e u o cs)]
  /-- One that has no room: it will be copied. -/
  | full {b u o len : Nat} {cs : List Value} (hl : cs.length = len * sz) (hone : cs.all one = true) : Own e sz (.slice (some ⟨b, o, some u⟩) len (2 * len + 1)) cs [(b, .inp e u o cs)]

theorem Own.sl {e sz : Nat} {v : Value} {cs : List Value} {Mx : HL} (h : Own e sz v cs Mx) (M : HL) : Sl (Mx ++ M) sz v cs := by
  cases h with
  | nil => exact .nil 0
  | @row b u o len cs hl => exact .row (ch := .row e u o cs) (cs := cs) (by simp) (.row _ _ _ _) (Nat.le_refl _) hl (by simp) (by simp) (.inl (.inl rfl))
  | @full b u o len cs hl hone => exact .row (ch := .inp e u o cs) (cs := cs) (by simp) (.inp _ _ _ _) (Nat.le_refl _) hl (by simp) (by simp) (.inr ⟨len, rfl, Nat.le_refl _⟩)

theorem hasH.perm {M M' : HL} {n : Nat} {H : Heap} (h : hasH M n H) (k : M.Perm M') : hasH M' n H :=
  ⟨h.next, fun p hp => h.blk p (k.mem_iff.2 hp), (k.map _).nodup_iff.1 h.nodup⟩
/-- A slice of one's own whose cells can be written. -/
inductive OwnR (e sz : Nat) : Value → List Value → HL → Prop where
  | mk {b u o len : Nat} {cs : List Value} (hl : cs.length = len * sz) : OwnR e sz (.slice (some ⟨b, o, some u⟩) len (2 * sz)) cs [(b, .row e u o cs)]

theorem append_ownR {P : Program} {e sz : Nat} {v : Value} {cs : List Value} {Mx M : HL} {n k : Nat} {H : Heap} (hO : Own e sz v cs Mx) (hH : hasH (Mx ++ M) n H) {x : Value} {new : List Value} (hk : srcLen x = some k) (hx : srcCells H sz k x = some new)
    (hl : new.length = k * sz) (h1 : 1 ≤ k) (hone : new.all one = true) (hs1 : 1 ≤ sz) (hs2 : sz ≤ 1000) (hsm : cs.length + new.length ≤ 100000) :
    ∃ v' Mx' n' H', appendA e sz H v x = .val v' H' ∧ OwnR e sz v' (cs ++ new) Mx' ∧ hasH (Mx' ++ M) n' H' ∧ n ≤ n' := by
  have hk2 : k ≤ 100000 := by
    have : k * 1 ≤ k * sz := Nat.mul_le_mul_left k hs1
    omega
  cases hO with
  | nil =>
    refine ⟨.slice (some ⟨n, 0, some 0⟩) k (2 * sz), [(n, .row e 0 0 new)], n + 1, H.row e new, ?_, ?_, ?_, Nat.le_succ _⟩
    · have hb : Nat.ble (0 + k) 0 = false := by
        cases hb : Nat.ble (0 + k) 0 with
        | false => rfl
        | true => have := Nat.le_of_ble_eq_true hb; omega
      have hsm' : small sz (0 + k) = true := by simp only [small, Bool.and_eq_true]; exact ⟨⟨Nat.ble_eq_true_of_le (by omega), Nat.ble_eq_true_of_le hs1⟩, Nat.ble_eq_true_of_le hs2⟩
      have hq : Nat.beq (0 + new.length) ((0 + k) * sz) = true := by rw [Nat.zero_add, Nat.zero_add, hl]; exact Nat.beq_refl _
      have hs0 : srcCells H sz 0 (.slice none 0 0) = some [] := rfl
      rw [Nat.zero_add] at hb hsm'
      rw [Nat.zero_add, Nat.zero_add] at hq
      simp only [appendA, hk, hx, appWith, capOf, hb, cond_false, hs0, appNew, hsm', List.all_nil, hone, Bool.true_and, List.length_nil, hq, cond_true, List.nil_append, newAddr, hH.next, Nat.zero_add]
    · exact .mk (by simpa using hl)
    · exact hH.row e hone
  | row hlen =>
    rename_i b u o len
    obtain ⟨ent, he, hok⟩ := hH.mem (b := b) (ch := .row e u o cs) (by simp)
    cases ent with
    | cells e' ro vs top c =>
      obtain ⟨rfl, rfl, ⟨l0, h2, h3⟩, h4, h5, htop⟩ := hok
      have hlk : (len + k) * sz = cs.length + new.length := by rw [Nat.add_mul, ← hlen, ← hl]
      have hlk2 : len + k ≤ 100000 := by
        have : (len + k) * 1 ≤ (len + k) * sz := Nat.mul_le_mul_left _ hs1
        omega
      have hsm' : small sz (len + k) = true := by simp only [small, Bool.and_eq_true]; exact ⟨⟨Nat.ble_eq_true_of_le hlk2, Nat.ble_eq_true_of_le hs1⟩, Nat.ble_eq_true_of_le hs2⟩
      have hq1 : Nat.beq (o + len * sz) (o + cs.length) = true := by rw [hlen]; exact Nat.beq_refl _
      have hq2 : Nat.beq new.length (k * sz) = true := by rw [hl]; exact Nat.beq_refl _
      have hq3 : Nat.ble l0 o = true := Nat.ble_eq_true_of_le h3
      have hq4 : Nat.ble 1 k = true := Nat.ble_eq_true_of_le h1
      have hq5 : Nat.beq sz sz = true := Nat.beq_refl _
      have hq6 : Nat.beq e' e' = true := Nat.beq_refl _
      have hq7 : Nat.beq k 0 = false := by cases k with | zero => omega | succ k => rfl
      refine ⟨.slice (some ⟨b, o, some top⟩) (len + k) (2 * sz), [(b, .row e' top o (cs ++ new))], n, H.upd b (.cells e' false (⟨top, o, o + cs.length + new.length⟩ :: keepOld (o + cs.length) (dropTo u vs)) (top + 1) (c.putL (o + cs.length) new)), ?_, ?_, ?_, Nat.le_refl _⟩
      · simp only [appendA, hk, hx, appWith, capOf_open _ hs2, hq5, hq7, cond_false, cond_true, appOpen, he, h2, hq6, hq1, hq3, hone, hsm', hq4, hq2, Bool.and_self]
      · exact .mk (by rw [List.length_append]; omega)
      · refine hH.upd .here ⟨rfl, rfl, ⟨o, by simp [findVer, Nat.add_assoc], Nat.le_refl _⟩, ?_, by rw [List.all_append, h5, hone]; rfl, Nat.lt_succ_self _⟩
        rw [readL_iff rfl]
        intro j hj
        rw [Tr.get_putL]
        by_cases hj2 : j < cs.length
        · rw [if_neg (by omega), List.getElem?_append_left hj2]; exact (readL_iff rfl).1 h4 j hj2
        · rw [List.length_append] at hj
          rw [if_pos (by omega), List.getElem?_append_right (by omega)]; congr 1; omega
    | _ => exact hok.elim
  | full hlen honec =>
    rename_i b u o len
    have hlk : (len + k) * sz = cs.length + new.length := by rw [Nat.add_mul, ← hlen, ← hl]
    have hlk2 : len + k ≤ 100000 := by
      have : (len + k) * 1 ≤ (len + k) * sz := Nat.mul_le_mul_left _ hs1
      omega
    have hb : Nat.ble (len + k) len = false := by
      cases hb : Nat.ble (len + k) len with
      | false => rfl
      | true => have := Nat.le_of_ble_eq_true hb; omega
    have hsm' : small sz (len + k) = true := by simp only [small, Bool.and_eq_true]; exact ⟨⟨Nat.ble_eq_true_of_le hlk2, Nat.ble_eq_true_of_le hs1⟩, Nat.ble_eq_true_of_le hs2⟩
    have hr := hH.readN (b := b) (u := u) (lo := o) (o := o) (k := len * sz) (ch := .inp e u o cs) (cs := cs) (by simp) (.inp _ _ _ _) (Nat.le_refl _) (by omega)
    rw [Nat.sub_self, List.drop_zero, ← hlen, List.take_length, hlen] at hr
    have hs0 : srcCells H sz len (.slice (some ⟨b, o, some u⟩) len (2 * len + 1)) = some cs := hr
    have hq : Nat.beq (cs.length + new.length) ((len + k) * sz) = true := by rw [hlk]; exact Nat.beq_refl _
    refine ⟨.slice (some ⟨n, 0, some 0⟩) (len + k) (2 * sz), [(n, .row e 0 0 (cs ++ new))], n + 1, H.row e (cs ++ new), ?_, .mk (by rw [List.length_append]; omega), ?_, Nat.le_succ _⟩
    · simp only [appendA, hk, hx, appWith, capOf_known, hb, cond_false, hs0, appNew, hsm', honec, hone, Bool.true_and, Bool.and_self, hq, cond_true, newAddr, hH.next]
    · exact hH.tail.row e (by rw [List.all_append, honec, hone]; rfl)

theorem OwnR.own {e sz : Nat} {v : Value} {cs : List Value} {Mx : HL} (h : OwnR e sz v cs Mx) : Own e sz v cs Mx := by cases h with | mk hl => exact .row hl
theorem append_own {P : Program} {e sz : Nat} {v : Value} {cs : List Value} {Mx M : HL} {n k : Nat} {H : Heap} (hO : Own e sz v cs Mx) (hH : hasH (Mx ++ M) n H) {x : Value} {new : List Value} (hk : srcLen x = some k) (hx : srcCells H sz k x = some new)
    (hl : new.length = k * sz) (h1 : 1 ≤ k) (hone : new.all one = true) (hs1 : 1 ≤ sz) (hs2 : sz ≤ 1000) (hsm : cs.length + new.length ≤ 100000) :
    ∃ v' Mx' n' H', appendA e sz H v x = .val v' H' ∧ Own e sz v' (cs ++ new) Mx' ∧ hasH (Mx' ++ M) n' H' ∧ n ≤ n' := by
  obtain ⟨v', Mx', n', H', q1, q2, q3, q4⟩ := append_ownR (P := P) hO hH hk hx hl h1 hone hs1 hs2 hsm
  exact ⟨v', Mx', n', H', q1, q2.own, q3, q4⟩

/-- Parts and their values. -/
def evp (L : Env) : List (Nat × Operand) → Option (List (Nat × Value))
  | [] => some []
  | (i, x) :: l => match ev L x, evp L l with
    | some v, some r => some ((i, v) :: r)
    | _, _ => none

theorem evp_ok {t : Tr Value} (h : has L t) : ∀ {xs : List (Nat × Operand)} {vs : List (Nat × Value)}, evp L xs = some vs → xs.map (fun p => (p.1, evalO t p.2)) = vs
  | [], vs, hx => by cases hx; rfl
  | (i, x) :: xs, vs, hx => by
    unfold evp at hx
    split at hx
    · rename_i v r h1 h2
      cases hx
      rw [List.map_cons, ev_ok h h1, evp_ok h h2]
    · cases hx

/-- A slice written out. -/
theorem WR.bldS {i d : Nat} {e sz k : Nat} {z : List Value} {ps : List (Nat × Operand)} {vs : List (Nat × Value)} {lo : List Nat} {l : List POp} {gd : Option (Tmp × Bool)} {cs : List Value} (hg : gOK L gd) (hd : Nat.blt d nt = true) (hH : hasH M n H) (hp : evp L ps = some vs)
    (hc : Instr.fill (fun j => some (j * sz, sz)) z.toArray vs = some cs.toArray) (hz : cs.all one = true)
    (kk : ∀ H', hasH ((n, .row e 0 0 cs) :: M) (n + 1) H' → WR C nt l ((d, .slice (some ⟨n, 0, some 0⟩) k (2 * k + 1)) :: L) D H' K) : WR C nt (⟨i, some d, .bldS e sz z k ps, gd, lo⟩ :: l) L D H K := by
  refine WR.op hg hd (H' := H.row e cs) (v := .slice (some ⟨n, 0, some 0⟩) k (2 * k + 1)) (fun t ht => ?_) (kk _ (hH.row e hz))
  simp only [opA, evp_ok ht hp, hc, oBldS, newAddr, hH.next]

theorem OpV.bldT {z : List Value} {pl : List (Nat × Nat)} {ps : List (Nat × Operand)} {vs : List (Nat × Value)} {cs : Array Value} (hp : evp L ps = some vs) (hc : Instr.fill (fun i => pl[i]?) z.toArray vs = some cs) : OpV C (.bldT z pl ps) L H (.agg cs) H := fun t ht => by
  simp only [opA, evp_ok ht hp, hc, oBld]
theorem OpV.bldA {z : List Value} {sz : Nat} {ps : List (Nat × Operand)} {vs : List (Nat × Value)} {cs : Array Value} (hp : evp L ps = some vs) (hc : Instr.fill (fun i => some (i * sz, sz)) z.toArray vs = some cs) : OpV C (.bldA z sz ps) L H (.agg cs) H := fun t ht => by
  simp only [opA, evp_ok ht hp, hc, oBld]

theorem WR.append {i d : Nat} {e sz : Nat} {s x : Operand} {lo : List Nat} {l : List POp} {gd : Option (Tmp × Bool)} {v y : Value} {cs : List Value} {Mx M0 : HL} {k : Nat} {new : List Value} (hg : gOK L gd) (hd : Nat.blt d nt = true) (hs : ev L s = some v) (hy : ev L x = some y)
    (hO : Own e sz v cs Mx) (hH : hasH M n H) (hM : M'.Sublist M) (hp : M'.Perm (Mx ++ M0)) (hk : srcLen y = some k) (hx : srcCells H sz k y = some new) (hl : new.length = k * sz) (h1 : 1 ≤ k) (hone : new.all one = true) (hs1 : 1 ≤ sz) (hs2 : sz ≤ 1000)
    (hsm : cs.length + new.length ≤ 100000) (kk : ∀ v' Mx' n' H', Own e sz v' (cs ++ new) Mx' → hasH (Mx' ++ M0) n' H' → n ≤ n' → WR C nt l ((d, v') :: L) D H' K) :
    WR C nt (⟨i, some d, .append e sz s x, gd, lo⟩ :: l) L D H K := by
  obtain ⟨v', Mx', n', H', q1, q2, q3, q4⟩ := append_own (P := C.c.P) hO ((hH.sub hM).perm hp) hk hx hl h1 hone hs1 hs2 hsm
  refine WR.op hg hd (H' := H') (v := v') (fun t ht => ?_) (kk v' Mx' n' H' q2 q3 q4)
  simp only [opA, ev_ok ht hs, ev_ok ht hy, q1]

/-- One element more: the slice of the one argument, and the append. -/
theorem WR.append1 {i j d d2 : Nat} {e sz : Nat} {z : List Value} {s x : Operand} {lo : List Nat} {l : List POp} {v y : Value} {cs new : List Value} {Mx M0 : HL} (hd : Nat.blt d nt = true) (hd2 : Nat.blt d2 nt = true)
    (hx : ev L x = some y) (hs : ev ((d, .slice (some ⟨n, 0, some 0⟩) 1 (2 * 1 + 1)) :: L) s = some v) (hO : Own e sz v cs Mx) (hH : hasH M n H) (hM : M'.Sublist M) (hp : M'.Perm (Mx ++ M0))
    (hc : Instr.fill (fun j => some (j * sz, sz)) z.toArray [(0, y)] = some new.toArray) (hone : new.all one = true) (hl : new.length = sz) (hs1 : 1 ≤ sz) (hs2 : sz ≤ 1000) (hsm : cs.length + new.length ≤ 100000)
    (kk : ∀ v' Mx' n' H', Own e sz v' (cs ++ new) Mx' → hasH (Mx' ++ M0) n' H' → n ≤ n' → WR C nt l ((d2, v') :: (d, .slice (some ⟨n, 0, some 0⟩) 1 (2 * 1 + 1)) :: L) D H' K) :
    WR C nt (⟨i, some d, .bldS e sz z 1 [(0, x)], none, []⟩ :: ⟨j, some d2, .append e sz s (.tmp d), none, lo⟩ :: l) L D H K := by
  refine WR.bldS True.intro hd hH (vs := [(0, y)]) (by simp only [evp, hx]) hc hone fun H1 hH1 => ?_
  refine WR.append (M' := M') (k := 1) (new := new) True.intro hd2 hs (y := .slice (some ⟨n, 0, some 0⟩) 1 (2 * 1 + 1)) (by simp [ev, Env.get]) hO hH1 (hM.trans (List.sublist_cons_self _ _)) hp rfl ?_ (by omega) (Nat.le_refl _) hone hs1 hs2 hsm ?_
  · have := hH1.readN (b := n) (u := 0) (lo := 0) (o := 0) (k := 1 * sz) (ch := .row e 0 0 new) (cs := new) (by simp) (.row _ _ _ _) (Nat.le_refl _) (by omega)
    have hk : (new.drop (0 - 0)).take (1 * sz) = new := by rw [Nat.one_mul, ← hl]; simp
    simp only [srcCells, this, hk]
  · intro v' Mx' n' H' q1 q2 q3
    exact kk v' Mx' n' H' q1 q2 (by omega)

/-! ### Deferred things -/

/-- Deferred things that have not been taken. -/
abbrev defds (D : List Nat) : HL := D.map (fun b => (b, Ch.defd false))

theorem take_defd : ∀ (D : List Nat) {M : HL} {n : Nat} {H : Heap}, hasH (D.map (fun b => (b, Ch.defd false)) ++ M) n H → ∃ H', takeAll H D = some H' ∧ hasH M n H'
  | [], M, n, H, h => ⟨H, rfl, h⟩
  | b :: D, M, n, H, h => by
    obtain ⟨e, he, hok⟩ := h.mem (b := b) (ch := .defd false) (by simp)
    cases e with
    | defd q =>
      have hq : q = false := hok
      subst hq
      have h2 : hasH ((b, .defd true) :: (D.map (fun b => (b, Ch.defd false)) ++ M)) n (H.upd b (.defd true)) := h.upd .here rfl
      obtain ⟨H', h3, h4⟩ := take_defd D h2.tail
      exact ⟨H', by simp only [takeAll, he]; exact h3, h4⟩
    | _ => exact hok.elim

/-- A return behind ranges over functions. -/
theorem Ends.retD {rs : List PRes} {R : Value → Heap → Prop} {e : Ex} {M0 : HL} (he : (match e with | .normal => True | .ret => True | _ => False)) (hH : hasH M n H) (hM : M'.Sublist M) (hp : M'.Perm (D.map (fun b => (b, Ch.defd false)) ++ M0))
    (k : ∀ H', hasH M0 n H' → ∀ t, has L t → ∃ v H2, leaveC rs ⟨t, D, H⟩ (some H') = some (.val v H2) ∧ R v H2) : Ends (retK rs R) e L D H := by
  obtain ⟨H', h1, h2⟩ := take_defd D ((hH.sub hM).perm hp)
  intro t ht
  obtain ⟨v, H2, h3, h4⟩ := k H' h2 t ht
  exact ⟨he, v, H2, by rw [h1]; exact h3, h4⟩
end

/-! ### Ranges over functions -/

section
variable {C : CW} {ro : Option Nat} {fn : FuncId} {nt : Nat} {L : Env} {D : List Nat} {H : Heap} {K : Ex → St → Prop} {M : HL} {n : Nat}

/-- What is known of a range's entry when the iterator has come back. -/
def rangeEnd (l : Nat) (K : Ex → Heap → Prop) (H : Heap) : Prop := ∃ r e, H.t.get l = some (.loop r) ∧ r.state ≠ .busy ∧ exOf r.pending = some e ∧ K e (H.upd l (.loop { r with state := .exhausted }))

theorem endRange_of {l : Nat} {t : Tr Value} {d : List Nat} {v : Value} {H : Heap} {Q : Ex → Heap → Prop} (h : rangeEnd l Q H) : ∃ e H', endRange l t d (some (.val v H)) = some (.code e ⟨t, d, H'⟩) ∧ Q e H' := by
  obtain ⟨r, e, h1, h2, h3, h4⟩ := h
  refine ⟨e, _, ?_, h4⟩
  simp only [endRange, h1]
  cases hs : r.state with
  | busy => exact absurd hs h2
  | _ => simp only [h3]

theorem WC.range0 {f : Operand} {ps : List Tmp} {asg body : PC} {g : FuncId} {va vb : List Value} (hf : ev L f = some (.func (.func g) va.toArray vb.toArray)) (hH : hasH M n H)
    (k : ∀ t, has L t → ∀ H', hasH ((n + 1, .loop { state := .ready, pending := none, fn := fn, tmps := t, params := ps, assign := asg, body := body, nt := nt }) :: (n, .defd false) :: M) (n + 2) H' →
      FS C g (va ++ [.func (.yield (n + 1)) #[] #[]] ++ vb) H' (fun _ H2 => rangeEnd (n + 1) (fun e H3 => Ends K e L (n :: D) H3) H2)) : WC C none fn nt (.rangeFunc f ps asg body) L D H K := by
  intro t ht
  have hn := hH.next
  have h1 : hasH ((n, .defd false) :: M) (n + 1) (H.add (.defd false)) := hH.add rfl
  have h2 : hasH ((n + 1, .loop { state := .ready, pending := none, fn := fn, tmps := t, params := ps, assign := asg, body := body, nt := nt }) :: (n, .defd false) :: M) (n + 2) ((H.add (.defd false)).add (.loop { state := .ready, pending := none, fn := fn, tmps := t, params := ps, assign := asg, body := body, nt := nt })) := h1.add rfl
  obtain ⟨v, H2, ⟨m, h3⟩, h4⟩ := k t ht _ h2
  obtain ⟨e, H3, h5, h6⟩ := endRange_of (t := t) (d := n :: D) (v := v) h4
  refine ⟨m, e, _, ?_, h6 t ht⟩
  have e1 : (H.add (.defd false)).next = n + 1 := h1.next
  simp only [stepC, rangeC, ev_ok ht hf, e1, hn]
  rw [h3]; exact h5
/-- The end of a round. -/
def rdK (l : Nat) (R : Value → Heap → Prop) (e : Ex) (s : St) : Prop :=
  ∃ r, s.H.t.get l = some (.loop r) ∧ R (.bool (exCode e).isNone) (s.H.upd l (.loop { r with state := (match e with | .normal => .ready | _ => .done), pending := exCode e }))

/-- Behind the assignment of a round. -/
def asgK (C : CW) (l : Nat) (r : LoopE) (R : Value → Heap → Prop) (e : Ex) (s : St) : Prop :=
  e = .normal ∧ s.H.t.get l = some (.loop r) ∧ WS C (some l) r.fn r.nt r.body { t := s.t, d := s.d, H := s.H.upd l (.loop { r with state := .busy }) } (rdK l R)

theorem YS.intro {l p : Nat} {r : LoopE} {y : Value} {R : Value → Heap → Prop} (hH : hasH M n H) (hm : (l, .loop r) ∈ M) (hst : r.state = .ready) (hps : r.params = [p]) (hp : Nat.blt p r.nt = true) (ht : has L r.tmps)
    (h : WC C (some l) r.fn r.nt r.assign ((p, y) :: L) [] H (asgK C l r R)) : YS C l [y] H R := by
  obtain ⟨e0, he0, hok⟩ := hH.mem hm
  cases e0 with
  | loop r1 =>
    have hr : r1 = r := hok
    subst hr
    obtain ⟨n1, e, s1, h1, h2, h3, n2, e2, s2, h4, r3, h5, h6⟩ := h _ (ht.put p y)
    subst h2
    refine ⟨_, _, ⟨max n1 n2 + 1, ?_⟩, h6⟩
    have hpt : putTs r1.nt r1.tmps r1.params [y] = some (r1.tmps.put p y) := by rw [hps]; simp only [putTs, putT, hp, cond_true]
    simp only [runW, ihW, step, stepYield, he0, hpt, stepRd, stepC_up (Nat.le_max_left n1 n2) h1, bodyRd, h3, hst, stepC_up (Nat.le_max_right n1 n2) h4, endRd, h5]
    cases e2 <;> rfl
  | _ => exact hok.elim

theorem Ends.asg {l : Nat} {r : LoopE} {R : Value → Heap → Prop} {M' : HL} (hH : hasH M n H) (hu : Upd M l (.loop r) (.loop { r with state := .busy }) M') (k : ∀ H', hasH M' n H' → WC C (some l) r.fn r.nt r.body L D H' (rdK l R)) :
    Ends (asgK C l r R) .normal L D H := by
  obtain ⟨e0, he0, hok⟩ := hH.mem hu.mem
  cases e0 with
  | loop r1 =>
    have hr : r1 = r := hok
    subst hr
    intro t ht
    exact ⟨rfl, he0, k _ (hH.upd hu (e' := .loop { r1 with state := .busy }) rfl) t ht⟩
  | _ => exact hok.elim

theorem Ends.rd {l : Nat} {r : LoopE} {R : Value → Heap → Prop} {M' : HL} {e : Ex} {st : LoopState} {pd : Option PC} {b : Bool} (hst : (match e with | .normal => LoopState.ready | _ => .done) = st) (hpd : exCode e = pd) (hb : (exCode e).isNone = b)
    (hH : hasH M n H) (hu : Upd M l (.loop r) (.loop { r with state := st, pending := pd }) M') (k : ∀ H', hasH M' n H' → R (.bool b) H') : Ends (rdK l R) e L D H := by
  obtain ⟨e0, he0, hok⟩ := hH.mem hu.mem
  cases e0 with
  | loop r1 =>
    have hr : r1 = r := hok
    subst hr
    intro t ht
    refine ⟨r1, he0, ?_⟩
    rw [hb]
    have := k _ (hH.upd hu (e' := .loop { r1 with state := st, pending := pd }) rfl)
    rw [← hst, ← hpd] at this
    exact this
  | _ => exact hok.elim

/-- The end of a range, from what is known of the heap. -/
theorem rangeEnd_of {l : Nat} {r : LoopE} {Q : Ex → Heap → Prop} {M' : HL} {e : Ex} (hH : hasH M n H) (hu : Upd M l (.loop r) (.loop { r with state := .exhausted }) M') (hst : r.state ≠ .busy) (hpd : exOf r.pending = some e) (k : ∀ H', hasH M' n H' → Q e H') : rangeEnd l Q H := by
  obtain ⟨e0, he0, hok⟩ := hH.mem hu.mem
  cases e0 with
  | loop r1 =>
    have hr : r1 = r := hok
    subst hr
    exact ⟨r1, e, he0, hst, hpd, k _ (hH.upd hu (e' := .loop { r1 with state := .exhausted }) rfl)⟩
  | _ => exact hok.elim

end
end Go.Abs
