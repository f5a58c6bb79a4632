/- Maps whose keys are arrays of numbers, and whose elements are numbers. -/
import Derived.Test.YtnmlfjohoeebiaaSymX
import Derived.Test.YtnmlfjohoeebiaaJ1
namespace Go.Abs
set_option linter.unusedSectionVars false
variable [Globs]
open Go Go.Mth
set_option linter.unusedVariables false
set_option linter.unusedSimpArgs false
attribute [local irreducible] gOK WS WC WR WD Ends FS YS seqK blockK loopK midK retK rdK asgK rangeEnd sat Cell
def keyI (s : List Int) : Value := .agg (ints s).toArray
abbrev MapI := List (List Int × Int)
def entsF : Nat → MapI → List ME
  | _, [] => []
  | b, p :: m => ⟨keyI p.1, .int .i64 p.2, b⟩ :: entsF (b + 1) m
abbrev ents (m : MapI) : List ME := entsF 0 m
def findI : MapI → List Int → Option Int
  | [], _ => none
  | p :: m, s => if p.1 = s then some p.2 else findI m s
def putI : MapI → List Int → Int → MapI
  | [], s, v => [(s, v)]
  | p :: m, s, v => if p.1 = s then (s, v) :: m else p :: putI m s v
theorem findI_put {m : MapI} {s : List Int} {v : Int} (t : List Int) : findI (putI m s v) t = if t = s then some v else findI m t := by
  induction m with
  | nil =>
    simp only [putI, findI]
    by_cases h : t = s
    · rw [if_pos h, if_pos h.symm]
    · rw [if_neg h, if_neg (fun q => h q.symm)]
  | cons p m ih =>
    simp only [putI]
    by_cases h : p.1 = s
    · rw [if_pos h]; simp only [findI]
      by_cases h2 : t = s
      · rw [if_pos h2, if_pos h2.symm]
      · rw [if_neg h2, if_neg (fun q => h2 q.symm), if_neg (fun q => h2 (q.symm.trans h))]
    · rw [if_neg h]; simp only [findI]
      by_cases h2 : p.1 = t
      · rw [if_pos h2, if_pos h2]
        rw [if_neg]; intro h3; exact h (h2.trans h3)
      · rw [if_neg h2, if_neg h2]; exact ih
/-- All keys have so many numbers. -/
def KeysN (k : Nat) (m : MapI) : Prop := ∀ p ∈ m, p.1.length = k
theorem KeysN.nil (k : Nat) : KeysN k [] := fun _ h => by cases h
theorem KeysN.put {k : Nat} {m : MapI} (h : KeysN k m) {s : List Int} (hs : s.length = k) (v : Int) : KeysN k (putI m s v) := by
  induction m with
  | nil => intro p hp; simp only [putI, List.mem_singleton] at hp; subst hp; exact hs
  | cons q m ih =>
    intro p hp
    simp only [putI] at hp
    split at hp
    · rcases List.mem_cons.1 hp with rfl | hp
      · exact hs
      · exact h p (List.mem_cons_of_mem _ hp)
    · rcases List.mem_cons.1 hp with rfl | hp
      · exact h _ (List.mem_cons_self ..)
      · exact ih (fun p hp => h p (List.mem_cons_of_mem _ hp)) p hp
theorem sameCs_ints : ∀ {a b : List Int}, a.length = b.length → sameCs (ints a) (ints b) = some (decide (a = b))
  | [], [], _ => by simp [sameCs]
  | x :: a, y :: b, h => by
    have ih := sameCs_ints (a := a) (b := b) (by simpa using h)
    simp only [ints, List.map_cons, sameCs, decide_true, cond_true, sameInt_eq] at ih ⊢
    by_cases hx : x = y
    · subst hx; simp only [beq_self_eq_true, cond_true, ih, List.cons.injEq, true_and]
    · rw [show (x == y) = false by simpa using hx]; simp [hx]
theorem sameK_ints {k : Nat} {a b : List Int} (h : a.length = b.length) : sameK (k + 3) (keyI a) (keyI b) = some (decide (a = b)) := sameCs_ints h
theorem isKeyK_ints {k : Nat} {a : List Int} (h : a.length = k) : isKeyK (k + 3) (keyI a) = true := by
  have : (ints a).all isInt = true := by rw [List.all_eq_true]; intro q hq; obtain ⟨z, _, rfl⟩ := List.mem_map.1 hq; rfl
  simp [keyI, isKeyK, h, this]
theorem find_ents {k : Nat} {s : List Int} (hs : s.length = k) : ∀ {m : MapI} {b i : Nat}, KeysN k m →
    (findI m s = none ∧ findM (k + 3) (keyI s) (entsF b m) i = some none) ∨ ∃ v j c, findI m s = some v ∧ findM (k + 3) (keyI s) (entsF b m) i = some (some (j, ⟨keyI s, .int .i64 v, c⟩))
  | [], b, i, _ => .inl ⟨rfl, rfl⟩
  | p :: m, b, i, h => by
    have hp := h p (List.mem_cons_self ..)
    have hk := sameK_ints (k := k) (a := s) (b := p.1) (by rw [hs, hp])
    simp only [entsF, findM, findI, hk]
    by_cases hq : p.1 = s
    · subst hq
      refine .inr ⟨p.2, i, b, ?_, ?_⟩ <;> simp
    · rw [if_neg hq, decide_eq_false (fun q => hq q.symm)]
      exact find_ents hs (fun p hp => h p (List.mem_cons_of_mem _ hp))
theorem entsF_len : ∀ (m : MapI) (b : Nat), (entsF b m).length = m.length
  | [], _ => rfl
  | p :: m, b => by simp [entsF, entsF_len m]
/-- What a put makes of the entries. -/
theorem put_ents {k : Nat} {s : List Int} (hs : s.length = k) {v : Int} : ∀ {m : MapI} {b i : Nat}, KeysN k m →
    (findM (k + 3) (keyI s) (entsF b m) i = some none ∧ entsF b m ++ [⟨keyI s, .int .i64 v, b + m.length⟩] = entsF b (putI m s v) ∧ (putI m s v).length = m.length + 1) ∨
    ∃ j e, findM (k + 3) (keyI s) (entsF b m) i = some (some (i + j, e)) ∧ modM (fun e => ⟨keyI s, .int .i64 v, e.b⟩) (entsF b m) j = entsF b (putI m s v) ∧ (putI m s v).length = m.length
  | [], b, i, _ => .inl ⟨rfl, rfl, rfl⟩
  | p :: m, b, i, h => by
    have hp := h p (List.mem_cons_self ..)
    have hk := sameK_ints (k := k) (a := s) (b := p.1) (by rw [hs, hp])
    simp only [entsF, findM, putI, hk]
    by_cases hq : p.1 = s
    · subst hq
      refine .inr ⟨0, ⟨keyI p.1, .int .i64 p.2, b⟩, ?_, ?_, ?_⟩
      · simp
      · simp [modM, entsF]
      · simp
    · rw [if_neg hq, decide_eq_false (fun q => hq q.symm)]
      rcases put_ents (v := v) hs (m := m) (b := b + 1) (i := i + 1) (fun p hp => h p (List.mem_cons_of_mem _ hp)) with ⟨h1, h2, h3⟩ | ⟨j, e, h1, h2, h3⟩
      · refine .inl ⟨h1, ?_, by simp [h3]⟩
        simp only [entsF, List.cons_append, List.length_cons]
        rw [show b + (m.length + 1) = b + 1 + m.length by omega, h2]
      · refine .inr ⟨j + 1, e, by simp only [h1, Nat.add_assoc, Nat.add_comm 1 j], ?_, by simp [h3]⟩
        simp only [modM, entsF, h2]
section
variable {C : CW} {nt : Nat} {L : Env} {D : List Nat} {H : Heap} {K : St → Prop} {M M' : HL} {n i d : Nat} {gd : Option (Tmp × Bool)} {lo : List Nat} {l : List POp}
theorem WR.mkM (hg : gOK L gd) (hd : Nat.blt d nt = true) (hH : hasH M n H) (k : ∀ H', hasH ((n, .map (ents [])) :: M) (n + 1) H' → WR C nt l ((d, .map (some n)) :: L) D H' K) :
    WR C nt (⟨i, some d, .mkM none, gd, lo⟩ :: l) L D H K := by
  refine WR.op hg hd (H' := H.add (.map [] 0)) (v := .map (some n)) (fun t ht => ?_) (k _ (hH.add (ch := .map (ents [])) ⟨rfl, rfl⟩))
  simp only [opA, Option.map_none, oMkM, newMap, hH.next]
theorem OpV.mget {kn b : Nat} {x y : Operand} {m : MapI} {s : List Int} (hx : ev L x = some (.map (some b))) (hy : ev L y = some (keyI s)) (hH : hasH M n H) (hm : (b, .map (ents m)) ∈ M) (hk : KeysN kn m) (hs : s.length = kn) :
    OpV C (.mget (kn + 3) (.int .i64 0) x y true) L H (.tuple #[.int .i64 ((findI m s).getD 0), .bool (findI m s).isSome]) H := fun t ht => by
  obtain ⟨e, he, hok⟩ := hH.mem hm
  cases e with
  | map l' c =>
    obtain ⟨rfl, _⟩ := hok
    simp only [opA, ev_ok ht hx, ev_ok ht hy, oMget, isKeyK_ints hs, cond_true, withMap, he]
    rcases find_ents hs (b := 0) (i := 0) hk with ⟨h1, h2⟩ | ⟨v, j, c, h1, h2⟩
    · rw [h1, h2]; rfl
    · rw [h1, h2]; rfl
  | _ => exact hok.elim
theorem WR.mput {kn b : Nat} {x y z : Operand} {m : MapI} {s : List Int} {v : Int} (hg : gOK L gd) (hx : ev L x = some (.map (some b))) (hy : ev L y = some (keyI s)) (hz : ev L z = some (.int .i64 v)) (hH : hasH M n H)
    (hu : Upd M b (.map (ents m)) (.map (ents (putI m s v))) M') (hk : KeysN kn m) (hs : s.length = kn) (k : ∀ H', hasH M' n H' → WR C nt l L D H' K) : WR C nt (⟨i, none, .mput (kn + 3) x y z, gd, lo⟩ :: l) L D H K := by
  obtain ⟨e, he, hok⟩ := hH.mem hu.mem
  cases e with
  | map l' c =>
    obtain ⟨rfl, hc⟩ := hok
    rcases put_ents hs (v := v) (b := 0) (i := 0) hk with ⟨h1, h2, h3⟩ | ⟨j, e, h1, h2, h3⟩
    · refine WR.op0 hg (H' := H.upd b (.map (ents (putI m s v)) (c + 1))) (v := undef) (fun t ht => ?_) (k _ (hH.upd hu ⟨rfl, by rw [hc, ents, ents, entsF_len, entsF_len, h3]⟩))
      have : c = 0 + m.length := by rw [hc, ents, entsF_len]; omega
      subst this
      simp only [opA, ev_ok ht hx, ev_ok ht hy, ev_ok ht hz, oMput, isKeyK_ints hs, cond_true, withMap, he, h1, h2]
    · refine WR.op0 hg (H' := H.upd b (.map (ents (putI m s v)) c)) (v := undef) (fun t ht => ?_) (k _ (hH.upd hu ⟨rfl, by rw [hc, ents, ents, entsF_len, entsF_len, h3]⟩))
      rw [Nat.zero_add] at h1
      simp only [opA, ev_ok ht hx, ev_ok ht hy, ev_ok ht hz, oMput, isKeyK_ints hs, cond_true, withMap, he, h1, h2]
  | _ => exact hok.elim
end
end Go.Abs
