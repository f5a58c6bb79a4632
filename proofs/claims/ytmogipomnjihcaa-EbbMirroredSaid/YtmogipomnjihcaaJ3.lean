/- Texts of the law, joined. -/
import Derived.Test.YtmogipomnjihcaaJ2
import Derived.Test.YtmogipomnjihcaaJ1
import Derived.Test.YtmogipomnjihcaaSymD
namespace Go.Proofs.Ytmogipomnjihcaa.Eb
open Go Go.Abs Go.Low
set_option linter.unusedVariables false
set_option linter.unusedSimpArgs false
attribute [local irreducible] gOK WS WC WR WD Ends FS YS OpV seqK blockK loopK midK retK rdK asgK rangeEnd sat Cell

theorem nodesR (l : List Nat) : nodes l = ints (l.map fun (x : Nat) => (x : Int)) := by simp [nodes, ints]

theorem mem_castR {l : List Nat} {q : Nat} : ((q : Int) ∈ l.map fun (x : Nat) => (x : Int)) ↔ q ∈ l := by
  rw [List.mem_map]
  constructor
  · rintro ⟨x, hx, he⟩
    have : x = q := by omega
    exact this ▸ hx
  · exact fun h => ⟨q, h, rfl⟩

structure MV where
  k : Nat
  v : Value
  Mx : HL
  n : Nat
  pl : List Nat

theorem reached_fs {M : HL} {n : Nat} {H : Heap} (hH : hasH M n H) {rows : Int} {c : Nat} {v : Value} {xs : List Int} (hS : Sl M 1 v (ints xs)) (hh : HS c xs.length (padded xs)) (hc6 : c ≤ 6) {p : Nat} (hp : p < xs.length) {h : Int} :
    FS C 76 [.agg #[.int .i64 rows, .int .i64 (c : Int), v], .int .i64 (p : Int), .int .i64 h] H (fun e H' => ∃ Mx n' l, n ≤ n' ∧ Own 3 1 e (nodes l) Mx ∧ hasH (Mx ++ M) n' H' ∧ l.length ≤ xs.length ∧ ∀ y, y ∈ l ↔ RP c xs.length (padded xs) h p y) := by
  have h1 := hS.one_
  have h36 := hh.r36
  have hget : ∀ q, q < xs.length → (ints xs)[q]? = some (.int .i64 ((padded xs).getD q 0)) := fun q hq => by rw [padded_get (by omega)]; exact ints_get hq
  generalize hhs : padded xs = hs at hh hget
  refine FS.intro (pf := pf76) rfl rfl rfl ?_
  repeat' (first | refine zA ?_ | (refine zM ?_; intro _ _) | (apply Ws <;> intro hg))
  rename_i H1 hH1
  have hSv : Sl ((n, .row 27 0 0 [.int .i64 rows, .int .i64 (c : Int), v]) :: M) 1 v (ints xs) := hS.cons
  have hmT : (n, Ch.row 27 0 0 [.int .i64 rows, .int .i64 (c : Int), v]) ∈ (n, Ch.row 27 0 0 [.int .i64 rows, .int .i64 (c : Int), v]) :: M := .head _
  have hback : ∀ {Mx : HL} {n' : Nat} {H' : Heap}, hasH (Mx ++ ((n, Ch.row 27 0 0 [.int .i64 rows, .int .i64 (c : Int), v]) :: M)) n' H' → hasH (Mx ++ M) n' H' := fun hq => hq.sub (.append (.refl _) (List.sublist_cons_self _ _))
  generalize (n, Ch.row 27 0 0 [.int .i64 rows, .int .i64 (c : Int), v]) :: M = T at hSv hmT hH1 hback
  refine WR.bldS (by first | exact gN | exact gS rfl) rfl hH1 (vs := []) rfl (cs := []) (by rfl) rfl fun H3 hH3 => ?_
  have hH4 := hH3.asInp .here
  clear hH3 hH1
  have hm4 : (n, Ch.row 27 0 0 [.int .i64 rows, .int .i64 (c : Int), v]) ∈ (n + 1, Ch.inp 3 0 0 []) :: T := .tail _ hmT
  repeat' (first | refine zA ?_ | (refine zM ?_; intro _ _) | (apply Ws <;> intro hg))
  refine WR.idxSl (by first | exact gN | exact gS rfl) rfl rfl (hSv.cons (p := (n + 1, .inp 3 0 0 []))) rfl rfl (hget p hp) fun _ _ _ hc1 => ?_
  repeat' (first | refine zA ?_ | (refine zM ?_; intro _ _) | (apply Ws <;> intro hg))
  refine WC.joinE (fun s : MV => [(1, .int .i64 (p : Int)), (2, .int .i64 h), (3, .pointer (some ⟨n, 0, some 0⟩)), (7, s.v)]) (fun _ => [])
    (fun s H => Met c xs.length hs h p s.pl 0 ∧ Own 3 1 s.v (nodes s.pl) s.Mx ∧ hasH (s.Mx ++ T) s.n H ∧ n ≤ s.n) ?_ ?_
  · refine WC.condP rfl (fun hle => ?_) (fun hle => ?_)
    · repeat' (first | refine zA ?_ | (refine zM ?_; intro _ _) | (apply Ws <;> intro hg))
      refine WR.append1F [] [(n + 1, .inp 3 0 0 [])] T rfl rfl rfl rfl (Own.full (e := 3) (sz := 1) (cs := []) rfl rfl) hH4 (new := [.int .i64 (p : Int)]) (by rfl) rfl rfl (Nat.le_refl _) (by omega) (by simp) fun v3 Mx3 n9 H10 hO3 hH10 hn10 => ?_
      simp only [List.nil_append] at hH10 hO3
      repeat' (first | refine zA ?_ | (refine zM ?_; intro _ _) | (apply Ws <;> intro hg))
      exact Ends.midE ⟨0, v3, Mx3, n9, [p]⟩ (by repeat' (first | exact .nil | refine .cons rfl ?_)) rfl ⟨⟨by simp, fun y hy => by rw [List.mem_singleton.1 hy]; exact .start hle, fun _ => by simp, fun j hj => absurd hj (Nat.not_lt_zero _)⟩, hO3, hH10, by simp only; omega⟩
    · repeat' (first | refine zA ?_ | (refine zM ?_; intro _ _) | (apply Ws <;> intro hg))
      exact Ends.midE ⟨0, _, [(n + 1, .inp 3 0 0 [])], n + 1 + 1, []⟩ (by repeat' (first | exact .nil | refine .cons rfl ?_)) rfl ⟨⟨by simp, by simp, fun h => absurd h hle, fun j hj => absurd hj (Nat.not_lt_zero _)⟩, Own.full (e := 3) (sz := 1) (cs := []) rfl rfl, hH4, by simp only; omega⟩
  clear hH4 hm4 hc1
  rintro ⟨_, v7, Mx, n5, met⟩ H5 ⟨hmet, hO, hH5, hn5⟩
  simp only at hmet hO hH5 hn5
  dsimp only
  repeat' (first | refine zA ?_ | (refine zM ?_; intro _ _) | (apply Ws <;> intro hg))
  refine WC.loop (fun s : MV => [(1, .int .i64 (p : Int)), (2, .int .i64 h), (3, .pointer (some ⟨n, 0, some 0⟩)), (7, s.v), (8, .int .i64 (s.k : Int))]) (fun _ => [])
    (fun s H => s.k ≤ s.pl.length ∧ Met c xs.length hs h p s.pl s.k ∧ Own 3 1 s.v (nodes s.pl) s.Mx ∧ hasH (s.Mx ++ T) s.n H ∧ n ≤ s.n)
    (fun s => xs.length - s.k) ⟨0, v7, Mx, n5, met⟩ (by repeat' (first | exact .nil | refine .cons rfl ?_)) rfl ⟨Nat.zero_le _, hmet, hO, hH5, hn5⟩ ?_
  clear hH5 hmet hO hn5
  rintro ⟨i, v7, Mx, n5, met⟩ H5 ⟨hi, hmet, hO, hH5, hn5⟩
  simp only at hi hmet hO hH5 hn5
  dsimp only
  have hml := hmet.len hp
  have hSl := hO.sl T
  repeat' (first | refine zA ?_ | (refine zM ?_; intro _ _) | (apply Ws <;> intro hg))
  refine WR.op (by first | exact gN | exact gS rfl) rfl (OpV.lenS rfl hSl) ?_
  rw [show (nodes met).length = met.length by simp]
  repeat' (first | refine zA ?_ | (refine zM ?_; intro _ _) | (apply Ws <;> intro hg))
  refine WC.condP rfl (fun hlt => ?_) (fun hlt => ?_)
  · have hi' : i < met.length := by omega
    obtain ⟨x, hx⟩ : ∃ x, met[i]? = some x := ⟨met[i], List.getElem?_eq_getElem hi'⟩
    have hxr := (hmet.rp x (List.mem_of_getElem? hx)).lt hp
    repeat' (first | refine zA ?_ | (refine zM ?_; intro _ _) | (apply Ws <;> intro hg))
    refine WC.loop (fun s : MV => [(1, .int .i64 (p : Int)), (2, .int .i64 h), (3, .pointer (some ⟨n, 0, some 0⟩)), (7, s.v), (8, .int .i64 (i : Int)), (9, .int .i64 (s.k : Int))]) (fun _ => [])
      (fun s H => s.k ≤ xs.length ∧ i < s.pl.length ∧ s.pl[i]? = some x ∧ Met c xs.length hs h p s.pl i ∧ (∀ y, y < s.k → y ∈ nbrs c xs.length x → hs.getD y 0 ≤ h → y ∈ s.pl) ∧ Own 3 1 s.v (nodes s.pl) s.Mx ∧ hasH (s.Mx ++ T) s.n H ∧ n ≤ s.n)
      (fun s => xs.length - s.k) ⟨0, v7, Mx, n5, met⟩ (by repeat' (first | exact .nil | refine .cons rfl ?_)) rfl ⟨Nat.zero_le _, hi', hx, hmet, fun y hy => absurd hy (Nat.not_lt_zero _), hO, hH5, hn5⟩ ?_
    clear hH5 hmet hO hn5 hx hi hlt hSl hml hi'
    rintro ⟨q, v7, Mx, n5, met⟩ H5 ⟨hq, hi, hx, hmet, hcl, hO, hH5, hn5⟩
    simp only at hq hi hx hmet hcl hO hH5 hn5
    dsimp only
    have hml := hmet.len hp
    have hSl := hO.sl T
    have hmX : (n, Ch.row 27 0 0 [.int .i64 rows, .int .i64 (c : Int), v]) ∈ Mx ++ T := List.mem_append_right _ hmT
    have hSvX : Sl (Mx ++ T) 1 v (ints xs) := hSv.mono (fun q hq => List.mem_append_right _ hq)
    repeat' (first | refine zA ?_ | (refine zM ?_; intro _ _) | (apply Ws <;> intro hg))
    refine WR.op (by first | exact gN | exact gS rfl) rfl (OpV.lenSI rfl hSvX) ?_
    repeat' (first | refine zA ?_ | (refine zM ?_; intro _ _) | (apply Ws <;> intro hg))
    refine WC.condP rfl (fun hlt => ?_) (fun hlt => ?_)
    · have hq' : q < xs.length := by omega
      repeat' (first | refine zA ?_ | (refine zM ?_; intro _ _) | (apply Ws <;> intro hg))
      refine WR.idxSl (by first | exact gN | exact gS rfl) rfl rfl hSl rfl rfl (c := .int .i64 (x : Int)) (by simp [hx]) fun _ _ _ hc1 => ?_
      repeat' (first | refine zA ?_ | (refine zM ?_; intro _ _) | (apply Ws <;> intro hg))
      refine WR.call (by first | exact gN | exact gS rfl) rfl rfl (besideR_fs hH5 h1 ⟨hh.c1, hc6⟩ hh.cr h36 hxr hq') ?_
      rintro _ H6 ⟨rfl, n6, hn6, hH6⟩
      have hnext : ∀ met' : List Nat, (q ∈ nbrs c xs.length x → hs.getD q 0 ≤ h → q ∈ met') → (∀ y ∈ met, y ∈ met') → ∀ y, y < q + 1 → y ∈ nbrs c xs.length x → hs.getD y 0 ≤ h → y ∈ met' := by
        intro met' hq1 hsub y hy hyn hyt
        rcases Nat.lt_or_ge y q with h2 | h2
        · exact hsub y (hcl y h2 hyn hyt)
        · have : y = q := by omega
          subst this; exact hq1 hyn hyt
      repeat' (first | refine zA ?_ | (refine zM ?_; intro _ _) | (apply Ws <;> intro hg))
      · rename_i hb
        refine WR.idxSl (by first | exact gN | exact gS rfl) rfl rfl hSvX rfl rfl (hget q hq') fun _ _ _ hc2 => ?_
        repeat' (first | refine zA ?_ | (refine zM ?_; intro _ _) | (apply Ws <;> intro hg))
        · -- low enough
          rename_i hb2
          have hSpI : Sl (Mx ++ T) 1 v7 (ints (met.map fun (x : Nat) => (x : Int))) := by rw [← nodesR]; exact hSl
          refine WR.call (by first | exact gN | exact gS rfl) rfl rfl (has_fs hH6 hSpI (by simp; omega) (q : Int)) ?_
          rintro _ _ ⟨rfl, rfl⟩
          repeat' (first | refine zA ?_ | (refine zM ?_; intro _ _) | (apply Ws <;> intro hg))
          refine WC.condP rfl (fun hin => ?_) (fun hin => ?_)
          · repeat' (first | refine zA ?_ | (refine zM ?_; intro _ _) | (apply Ws <;> intro hg))
            refine WR.append1F [] Mx T rfl rfl rfl rfl hO hH6 (new := [.int .i64 (q : Int)]) (by rfl) rfl rfl (Nat.le_refl _) (by omega) (by simp; omega) fun v3 Mx3 n9 H10 hO3 hH10 hn10 => ?_
            simp only [List.nil_append] at hH10
            have hn : q ∉ met := fun hm => hin (mem_castR.2 hm)
            repeat' (first | refine zA ?_ | (refine zM ?_; intro _ _) | (apply Ws <;> intro hg))
            refine Ends.loop ⟨q + 1, v3, Mx3, n9, met ++ [q]⟩ (by simp only; omega) (by repeat' (first | exact .nil | refine .cons rfl ?_)) rfl ⟨hq', by simp; omega, ?_, ?_, hnext _ (fun _ _ => by simp) (fun y hy => by simp [hy]), ?_, hH10, by simp only; omega⟩
            · simp only; rw [List.getElem?_append_left hi]; exact hx
            · exact hmet.push hi (List.mem_of_getElem? hx) (by assumption) hq' (by assumption) hn
            · simpa using hO3
          · have hm : q ∈ met := mem_castR.1 (Decidable.not_not.1 hin)
            repeat' (first | refine zA ?_ | (refine zM ?_; intro _ _) | (apply Ws <;> intro hg))
            exact Ends.loop ⟨q + 1, v7, Mx, n6, met⟩ (by simp only; omega) (by repeat' (first | exact .nil | refine .cons rfl ?_)) rfl ⟨hq', hi, hx, hmet, hnext met (fun _ _ => hm) (fun y hy => hy), hO, hH6, by simp only; omega⟩
        · repeat' (first | refine zA ?_ | (refine zM ?_; intro _ _) | (apply Ws <;> intro hg))
          exact Ends.loop ⟨q + 1, v7, Mx, n6, met⟩ (by simp only; omega) (by repeat' (first | exact .nil | refine .cons rfl ?_)) rfl ⟨hq', hi, hx, hmet, hnext met (fun _ h2 => absurd h2 (by assumption)) (fun y hy => hy), hO, hH6, by simp only; omega⟩
      · repeat' (first | refine zA ?_ | (refine zM ?_; intro _ _) | (apply Ws <;> intro hg))
        exact Ends.loop ⟨q + 1, v7, Mx, n6, met⟩ (by simp only; omega) (by repeat' (first | exact .nil | refine .cons rfl ?_)) rfl ⟨hq', hi, hx, hmet, hnext met (fun h2 _ => absurd h2 (by assumption)) (fun y hy => hy), hO, hH6, by simp only; omega⟩
    have hqn : q = xs.length := by omega
    subst hqn
    repeat' (first | refine zA ?_ | (refine zM ?_; intro _ _) | (apply Ws <;> intro hg))
    refine Ends.loop ⟨i + 1, v7, Mx, n5, met⟩ (by simp only; omega) (by repeat' (first | exact .nil | refine .cons rfl ?_)) rfl ⟨hi, ⟨hmet.nd, hmet.rp, hmet.st, fun j hj z hz w hw hwr hwt => ?_⟩, hO, hH5, hn5⟩
    rcases Nat.lt_or_ge j i with h2 | h2
    · exact hmet.cl j h2 z hz w hw hwr hwt
    · have : j = i := by simp only at hj; omega
      subst this
      rw [hx] at hz; cases hz
      exact hcl w hwr hw hwt
  have hall := fun y => hmet.all (show met.length ≤ i by omega) (y := y)
  repeat' (first | refine zA ?_ | (refine zM ?_; intro _ _) | (apply Ws <;> intro hg))
  refine WC.loop (fun s : MV => [(3, .pointer (some ⟨n, 0, some 0⟩)), (7, v7), (10, s.v), (11, .int .i64 (s.k : Int))]) (fun _ => [])
    (fun s H => s.k ≤ xs.length ∧ s.pl = (List.range s.k).filter (fun y => decide (y ∈ met)) ∧ Own 3 1 s.v (nodes s.pl) s.Mx ∧ hasH (s.Mx ++ (Mx ++ T)) s.n H ∧ n ≤ s.n)
    (fun s => xs.length - s.k) ⟨0, .slice none 0 0, [], n5, []⟩ (by repeat' (first | exact .nil | refine .cons rfl ?_)) rfl ⟨Nat.zero_le _, rfl, .nil, hH5, hn5⟩ ?_
  clear hH5 hmet hO hn5
  rintro ⟨k, v10, My, n8, l⟩ H8 ⟨hk, hl, hO, hH8, hn8⟩
  simp only at hk hl hO hH8 hn8
  dsimp only
  have hmX : (n, Ch.row 27 0 0 [.int .i64 rows, .int .i64 (c : Int), v]) ∈ My ++ (Mx ++ T) := List.mem_append_right _ (List.mem_append_right _ hmT)
  have hSvX : Sl (My ++ (Mx ++ T)) 1 v (ints xs) := hSv.mono (fun q hq => List.mem_append_right _ (List.mem_append_right _ hq))
  have hSm : Sl (My ++ (Mx ++ T)) 1 v7 (ints (met.map fun (x : Nat) => (x : Int))) := by rw [← nodesR]; exact hSl.mono (fun q hq => List.mem_append_right _ hq)
  have hll : l.length ≤ k := by rw [hl]; have := List.length_filter_le (fun y => decide (y ∈ met)) (List.range k); simpa using this
  have hsucc : (List.range (k + 1)).filter (fun y => decide (y ∈ met)) = l ++ if k ∈ met then [k] else [] := by
    rw [List.range_succ, List.filter_append, ← hl]
    congr 1
    by_cases hm : k ∈ met <;> simp [hm]
  repeat' (first | refine zA ?_ | (refine zM ?_; intro _ _) | (apply Ws <;> intro hg))
  refine WR.op (by first | exact gN | exact gS rfl) rfl (OpV.lenSI rfl hSvX) ?_
  repeat' (first | refine zA ?_ | (refine zM ?_; intro _ _) | (apply Ws <;> intro hg))
  refine WC.condP rfl (fun hlt2 => ?_) (fun hlt2 => ?_)
  · have hk' : k < xs.length := by omega
    repeat' (first | refine zA ?_ | (refine zM ?_; intro _ _) | (apply Ws <;> intro hg))
    refine WR.call (by first | exact gN | exact gS rfl) rfl rfl (has_fs hH8 hSm (by simp; omega) (k : Int)) ?_
    rintro _ _ ⟨rfl, rfl⟩
    repeat' (first | refine zA ?_ | (refine zM ?_; intro _ _) | (apply Ws <;> intro hg))
    refine WC.condP rfl (fun hin => ?_) (fun hin => ?_)
    · have hm : k ∈ met := mem_castR.1 hin
      rw [if_pos hm] at hsucc
      repeat' (first | refine zA ?_ | (refine zM ?_; intro _ _) | (apply Ws <;> intro hg))
      refine WR.append1F [] My (Mx ++ T) rfl rfl rfl rfl hO hH8 (new := [.int .i64 (k : Int)]) (by rfl) rfl rfl (Nat.le_refl _) (by omega) (by simp; omega) fun v3 Mx3 n9 H10 hO3 hH10 hn10 => ?_
      simp only [List.nil_append] at hH10
      repeat' (first | refine zA ?_ | (refine zM ?_; intro _ _) | (apply Ws <;> intro hg))
      exact Ends.loop ⟨k + 1, v3, Mx3, n9, l ++ [k]⟩ (by simp only; omega) (by repeat' (first | exact .nil | refine .cons rfl ?_)) rfl ⟨hk', hsucc.symm, by simpa using hO3, hH10, by simp only; omega⟩
    · have hm : k ∉ met := fun h2 => hin (mem_castR.2 h2)
      rw [if_neg hm, List.append_nil] at hsucc
      repeat' (first | refine zA ?_ | (refine zM ?_; intro _ _) | (apply Ws <;> intro hg))
      exact Ends.loop ⟨k + 1, v10, My, n8, l⟩ (by simp only; omega) (by repeat' (first | exact .nil | refine .cons rfl ?_)) rfl ⟨hk', hsucc.symm, hO, hH8, hn8⟩
  have hkn : k = xs.length := by omega
  subst hkn
  repeat' (first | refine zA ?_ | (refine zM ?_; intro _ _) | (apply Ws <;> intro hg))
  refine Ends.ret1 rfl ⟨My, n8, l, hn8, hO, ?_, hll, fun y => ?_⟩
  · exact (hback (hH8.sub (.append (.refl _) (List.sublist_append_right _ _))))
  · rw [hl, List.mem_filter, List.mem_range, decide_eq_true_iff]
    constructor
    · rintro ⟨_, h2⟩; exact (hall y).1 h2
    · intro h2; exact ⟨h2.lt hp, (hall y).2 h2⟩
end Go.Proofs.Ytmogipomnjihcaa.Eb

namespace Go.Proofs.Ytmogipomnjihcaa.Eb
open Go Go.Abs Go.Low
set_option linter.unusedVariables false
set_option linter.unusedSimpArgs false
attribute [local irreducible] gOK WS WC WR WD Ends FS YS OpV seqK blockK loopK midK retK rdK asgK rangeEnd sat Cell

theorem sillR_fs {M : HL} {n : Nat} {H : Heap} (hH : hasH M n H) {rows c : Nat} {v : Value} {xs best : List Int} (hS : Sl M 1 v (ints xs)) (hh : HS c xs.length (padded xs)) (hc6 : c ≤ 6) (hrows : 1 ≤ rows ∧ rows ≤ 6) (hr : xs.length = rows * c) {p : Nat} (hp : p < xs.length)
    (hl : Lowest c xs.length (padded xs) xs.length best) :
    FS C 58 [.agg #[.int .i64 (rows : Int), .int .i64 (c : Int), v], .int .i64 (p : Int)] H (fun e H' => e = .int .i64 (best.getD p 0) ∧ ∃ n', n ≤ n' ∧ hasH M n' H') := by
  have h1 := hS.one_
  have h36 := hh.r36
  have h0 : (padded xs).getD xs.length 0 = 0 := by rw [padded_get (by omega), List.getD_eq_getElem?_getD, List.getElem?_eq_none (Nat.le_refl _)]; rfl
  have hb30 := best_le hh hc6 hl (Nat.le_of_lt hp)
  have hb0 := (hl.bd p (by omega)).1
  have hfound := fun {t : Int} ht => found_iff hh hc6 h0 hl hp (t := t) ht
  refine FS.intro (pf := pf58) rfl rfl rfl ?_
  repeat' (first | refine zA ?_ | (refine zM ?_; intro _ _) | (apply Ws <;> intro hg))
  rename_i H1 hH1
  have hSv : Sl ((n, .row 27 0 0 [.int .i64 (rows : Int), .int .i64 (c : Int), v]) :: M) 1 v (ints xs) := hS.cons
  have hmT : (n, Ch.row 27 0 0 [.int .i64 (rows : Int), .int .i64 (c : Int), v]) ∈ (n, Ch.row 27 0 0 [.int .i64 (rows : Int), .int .i64 (c : Int), v]) :: M := .head _
  have hback : ∀ {n' : Nat} {H' : Heap}, hasH ((n, Ch.row 27 0 0 [.int .i64 (rows : Int), .int .i64 (c : Int), v]) :: M) n' H' → hasH M n' H' := fun hq => hq.tail
  generalize (n, Ch.row 27 0 0 [.int .i64 (rows : Int), .int .i64 (c : Int), v]) :: M = T at hSv hmT hH1 hback
  refine WC.loop (fun s : Nat × Nat => [(1, .int .i64 (p : Int)), (2, .pointer (some ⟨n, 0, some 0⟩)), (5, .int .i64 (s.1 : Int))]) (fun _ => [])
    (fun s H => s.1 ≤ 30 ∧ (s.1 : Int) ≤ best.getD p 0 ∧ hasH T s.2 H ∧ n ≤ s.2) (fun s => 30 - s.1) (0, n + 1) (by repeat' (first | exact .nil | refine .cons rfl ?_)) rfl ⟨Nat.zero_le _, by simpa using hb0, hH1, by simp only; omega⟩ ?_
  clear hH1
  rintro ⟨k, n2⟩ H2 ⟨hk, hkb, hH2, hn2⟩
  simp only at hk hkb hH2 hn2
  dsimp only
  repeat' (first | refine zA ?_ | (refine zM ?_; intro _ _) | (apply Ws <;> intro hg))
  refine WC.condP rfl (fun hlt => ?_) (fun hlt => ?_)
  · have hk' : k < 30 := by omega
    repeat' (first | refine zA ?_ | (refine zM ?_; intro _ _) | (apply Ws <;> intro hg))
    refine WR.call (by first | exact gN | exact gS rfl) rfl rfl (reached_fs hH2 hSv hh hc6 hp (h := (k : Int))) ?_
    rintro _ H3 ⟨Mx, n3, l, hn3, hO, hH3, hll, hmem⟩
    have hmX : (n, Ch.row 27 0 0 [.int .i64 (rows : Int), .int .i64 (c : Int), v]) ∈ Mx ++ T := List.mem_append_right _ hmT
    have hSl := hO.sl T
    rename_i vl
    repeat' (first | refine zA ?_ | (refine zM ?_; intro _ _) | (apply Ws <;> intro hg))
    refine WC.loop (fun s : Nat × Nat => [(1, .int .i64 (p : Int)), (2, .pointer (some ⟨n, 0, some 0⟩)), (5, .int .i64 (k : Int)), (6, vl), (7, .int .i64 (s.1 : Int))]) (fun _ => [])
      (fun s H => s.1 ≤ l.length ∧ (∀ j, j < s.1 → ∀ y, l[j]? = some y → xs.length ∉ nbrs c xs.length y) ∧ hasH (Mx ++ T) s.2 H ∧ n ≤ s.2) (fun s => l.length - s.1) (0, n3) (by repeat' (first | exact .nil | refine .cons rfl ?_)) rfl ⟨Nat.zero_le _, fun j hj => absurd hj (Nat.not_lt_zero _), hH3, by simp only; omega⟩ ?_
    clear hH3 hH2
    rintro ⟨j, n4⟩ H4 ⟨hj, hno, hH4, hn4⟩
    simp only at hj hno hH4 hn4
    dsimp only
    repeat' (first | refine zA ?_ | (refine zM ?_; intro _ _) | (apply Ws <;> intro hg))
    refine WR.op (by first | exact gN | exact gS rfl) rfl (OpV.lenS rfl hSl) ?_
    rw [show (nodes l).length = l.length by simp]
    repeat' (first | refine zA ?_ | (refine zM ?_; intro _ _) | (apply Ws <;> intro hg))
    refine WC.condP rfl (fun hlt2 => ?_) (fun hlt2 => ?_)
    · have hj' : j < l.length := by omega
      obtain ⟨y, hy⟩ : ∃ y, l[j]? = some y := ⟨l[j], List.getElem?_eq_getElem hj'⟩
      have hyRP := (hmem y).1 (List.mem_of_getElem? hy)
      repeat' (first | refine zA ?_ | (refine zM ?_; intro _ _) | (apply Ws <;> intro hg))
      refine WR.idxSl (by first | exact gN | exact gS rfl) rfl rfl hSl rfl rfl (c := .int .i64 (y : Int)) (by simp [hy]) fun _ _ _ hc1 => ?_
      repeat' (first | refine zA ?_ | (refine zM ?_; intro _ _) | (apply Ws <;> intro hg))
      refine WR.call (by first | exact gN | exact gS rfl) rfl rfl (last_fs hH4 h1 ⟨hh.c1, hc6⟩ hrows hr (hyRP.lt hp)) ?_
      rintro _ H5 ⟨rfl, n5, hn5, hH5⟩
      repeat' (first | refine zA ?_ | (refine zM ?_; intro _ _) | (apply Ws <;> intro hg))
      refine WC.condP rfl (fun hlast => ?_) (fun hlast => ?_)
      · repeat' (first | refine zA ?_ | (refine zM ?_; intro _ _) | (apply Ws <;> intro hg))
        refine Ends.ret1 rfl ⟨?_, n5, by omega, hback (hH5.sub (List.sublist_append_right _ _))⟩
        have := (hfound ⟨by omega, by omega⟩).1 ⟨y, hyRP, hlast⟩
        congr 1; omega
      · repeat' (first | refine zA ?_ | (refine zM ?_; intro _ _) | (apply Ws <;> intro hg))
        refine Ends.loop (j + 1, n5) (by simp only; omega) (by repeat' (first | exact .nil | refine .cons rfl ?_)) rfl ⟨hj', fun i hi z hz => ?_, hH5, by simp only; omega⟩
        rcases Nat.lt_or_ge i j with h2 | h2
        · exact hno i h2 z hz
        · have : i = j := by simp only at hi; omega
          subst this
          rw [hy] at hz; cases hz; exact hlast
    have hjl : j = l.length := by omega
    subst hjl
    have hnot : ¬ best.getD p 0 ≤ (k : Int) := by
      intro hle
      obtain ⟨y, hy1, hy2⟩ := (hfound (t := (k : Int)) ⟨by omega, by omega⟩).2 hle
      obtain ⟨i, hi, he⟩ := List.mem_iff_getElem.1 ((hmem y).2 hy1)
      exact hno i hi y (by rw [List.getElem?_eq_getElem hi, he]) hy2
    repeat' (first | refine zA ?_ | (refine zM ?_; intro _ _) | (apply Ws <;> intro hg))
    exact Ends.loop (k + 1, n4) (by simp only; omega) (by repeat' (first | exact .nil | refine .cons rfl ?_)) rfl ⟨hk', by simp only; omega, hH4.sub (List.sublist_append_right _ _), hn4⟩
  have hk30 : k = 30 := by omega
  subst hk30
  repeat' (first | refine zA ?_ | (refine zM ?_; intro _ _) | (apply Ws <;> intro hg))
  refine Ends.ret1 rfl ⟨?_, n2, hn2, hback hH2⟩
  congr 1; omega

theorem depthR_fs {M : HL} {n : Nat} {H : Heap} (hH : hasH M n H) {rows c : Nat} {v : Value} {xs best : List Int} (hS : Sl M 1 v (ints xs)) (hh : HS c xs.length (padded xs)) (hc6 : c ≤ 6) (hrows : 1 ≤ rows ∧ rows ≤ 6) (hr : xs.length = rows * c) {p : Nat} (hp : p < xs.length)
    (hl : Lowest c xs.length (padded xs) xs.length best) {w : Int} (hw : 0 ≤ w ∧ w ≤ 30) :
    FS C 62 [.agg #[.int .i64 (rows : Int), .int .i64 (c : Int), v], .int .i64 w, .int .i64 (p : Int)] H (fun e H' => e = .int .i64 (deep best (padded xs) w p) ∧ ∃ n', n ≤ n' ∧ hasH M n' H') := by
  have h1 := hS.one_
  have h36 := hh.r36
  have hX : (ints xs)[p]? = some (.int .i64 ((padded xs).getD p 0)) := by rw [padded_get (by omega)]; exact ints_get hp
  have hb := hl.bd p (by omega)
  have hbd := hh.bd p
  refine FS.intro (pf := pf62) rfl rfl rfl ?_
  repeat' (first | refine zA ?_ | (refine zM ?_; intro _ _) | (apply Ws <;> intro hg))
  rename_i H1 hH1
  have hSv : Sl ((n, .row 27 0 0 [.int .i64 (rows : Int), .int .i64 (c : Int), v]) :: M) 1 v (ints xs) := hS.cons
  refine WC.regionD ?_
  refine WD.loadN (by first | exact gN | exact gS rfl) rfl rfl (hH1.readN (k := 3) (.head _) (.row _ _ _ _) (Nat.zero_le _) (by simp)) ?_
  (repeat' (first | refine d1 rfl ?_ | refine d2 rfl ?_ | refine d3 rfl ?_))
  refine d5 rfl hH1 (.head _) (.row _ _ _ _) (Nat.zero_le _) rfl ?_
  (repeat' (first | refine d1 rfl ?_ | refine d2 rfl ?_ | refine d3 rfl ?_))
  obtain ⟨b, o, u, hop, hcell⟩ := OpV.idxSl (C := C) (L := [(14, .int .i64 (p : Int)), (13, v)]) (H := H1) (x := .tmp 13) (ix := .tmp 14) rfl hSv rfl rfl hX
  refine WD.op (by first | exact gN | exact gS rfl) rfl (v := .pointer (some ⟨b, o, some u⟩)) (hop.weaken (by repeat' (first | exact .nil | refine .cons rfl ?_))) rfl (stands_nil _ _) ?_
  refine WD.load1 (by first | exact gN | exact gS rfl) rfl rfl (hcell.read hH1) ?_
  refine WD.call (by first | exact gN | exact gS rfl) rfl rfl (sillR_fs hH1 hSv hh hc6 hrows hr hp hl) ?_
  rintro _ H7 ⟨rfl, n7, hn7, hH7⟩
  refine ⟨stands_cons (.inr (holds_at (hcell.read hH7) (same_int _ _))) (stands_cons (.inr (holds_at (hH7.read (.head _) (.row _ _ _ _) (Nat.zero_le _) rfl) hSv.same)) (stands_cons (.inl rfl) stands_nil')), ?_⟩
  refine WD.toWR rfl ?_
  refine WR.op (by first | exact gN | exact gS rfl) rfl (OpV.max' rfl rfl rfl) ?_
  refine WR.op (by first | exact gN | exact gS rfl) rfl (OpV.sub rfl rfl (by omega)) ?_
  repeat' (first | refine zA ?_ | (refine zM ?_; intro _ _) | (apply Ws <;> intro hg))
  exact Ends.ret1 rfl ⟨rfl, n7, by omega, hH7.tail⟩

end Go.Proofs.Ytmogipomnjihcaa.Eb

namespace Go.Proofs.Ytmogipomnjihcaa.Eb
open Go Go.Abs Go.Low
set_option linter.unusedVariables false
set_option linter.unusedSimpArgs false
attribute [local irreducible] gOK WS WC WR WD Ends FS YS OpV seqK blockK loopK midK retK rdK asgK rangeEnd sat Cell

theorem best_ge {c r : Nat} {hs b : List Int} (hh : HS c r hs) (hc6 : c ≤ 6) (hl : Lowest c r hs r b) {p : Nat} (hp : p ≤ r) : hs.getD p 0 ≤ b.getD p 0 :=
  reach_top ((hl.out.done hh (Nat.le_refl _) (best_le hh hc6 hl hp) hp).1 (Int.le_refl _))

theorem getD_eq {l : List Int} {k : Nat} (h : k < l.length) : l.getD k 0 = l[k] := by rw [List.getD_eq_getElem?_getD, List.getElem?_eq_getElem h]; rfl

theorem HourR_fs {M : HL} {n : Nat} {H : Heap} (hH : hasH M n H) {r c : Int} {v vw : Value} {xs ws : List Int} (hS : Sl M 1 v (ints xs)) (hx : xs.length ≤ 1000) (hSw : Sl M 1 vw (ints ws)) (hw : ws.length ≤ 1000) (p : Int)
    (hex : hourE r c xs ws p = 0 → ∃ best, Lowest c.toNat xs.length (padded xs) xs.length best) :
    FS C 30 [.agg #[.int .i64 r, .int .i64 c, v], vw, .int .i64 p] H (fun e H' => ∃ n', n ≤ n' ∧ hasH M n' H' ∧ (hourE r c xs ws p ≠ 0 ∧ e = .tuple #[.int .i64 0, .int .i64 (hourE r c xs ws p)] ∨ hourE r c xs ws p = 0 ∧ HourR r c xs ws p.toNat e)) := by
  have h1 := hS.one_
  refine FS.intro (pf := pf30) rfl rfl rfl ?_
  repeat' (first | refine zA ?_ | (refine zM ?_; intro _ _) | (apply Ws <;> intro hg))
  rename_i H1 hH1
  have hSv : Sl ((n, .row 27 0 0 [.int .i64 r, .int .i64 c, v]) :: M) 1 v (ints xs) := hS.cons
  have hSq : Sl ((n, .row 27 0 0 [.int .i64 r, .int .i64 c, v]) :: M) 1 vw (ints ws) := hSw.cons
  have hmT : (n, Ch.row 27 0 0 [.int .i64 r, .int .i64 c, v]) ∈ (n, Ch.row 27 0 0 [.int .i64 r, .int .i64 c, v]) :: M := .head _
  have hback : ∀ {n' : Nat} {H' : Heap}, hasH ((n, Ch.row 27 0 0 [.int .i64 r, .int .i64 c, v]) :: M) n' H' → hasH M n' H' := fun hq => hq.tail
  generalize (n, Ch.row 27 0 0 [.int .i64 r, .int .i64 c, v]) :: M = T at hSv hSq hmT hH1 hback
  refine WR.call (by first | exact gN | exact gS rfl) rfl rfl (CheckR_fs hH1 hSv hx) ?_
  rintro _ H2 ⟨rfl, n2, hn2, hH2⟩
  clear hH1
  repeat' (first | refine zA ?_ | (refine zM ?_; intro _ _) | (apply Ws <;> intro hg))
  refine WC.condP rfl (fun hne => ?_) (fun hne => ?_)
  · have hl : hourE r c xs ws p = checkE r c xs := by simp only [hourE, ne_eq, hne, not_false_eq_true, if_true]
    repeat' (first | refine zA ?_ | (refine zM ?_; intro _ _) | (apply Ws <;> intro hg))
    exact Ends.ret2 rfl rfl ⟨n2, by omega, hback hH2, .inl ⟨by rw [hl]; exact hne, by rw [hl]⟩⟩
  have hck : checkE r c xs = 0 := Decidable.not_not.1 hne
  obtain ⟨hh, hc6, hr36⟩ := HS_of hck
  obtain ⟨g1, g2, g3, g4, g5, g6⟩ := check_ok hck
  repeat' (first | refine zA ?_ | (refine zM ?_; intro _ _) | (apply Ws <;> intro hg))
  refine WR.op (by first | exact gN | exact gS rfl) rfl (OpV.lenSI rfl hSq) ?_
  repeat' (first | refine zA ?_ | (refine zM ?_; intro _ _) | (apply Ws <;> intro hg))
  refine WC.condP rfl (fun h24 => ?_) (fun h24 => ?_)
  · have hl : hourE r c xs ws p = 3 := by simp only [hourE, hck, ne_eq, not_true_eq_false, if_false, h24, if_true]
    repeat' (first | refine zA ?_ | (refine zM ?_; intro _ _) | (apply Ws <;> intro hg))
    exact Ends.ret2 rfl rfl ⟨n2, by omega, hback hH2, .inl ⟨by rw [hl]; decide, by rw [hl]⟩⟩
  repeat' (first | refine zA ?_ | (refine zM ?_; intro _ _) | (apply Ws <;> intro hg))
  refine WC.loop (fun k : Nat => [(1, vw), (2, .int .i64 p), (3, .pointer (some ⟨n, 0, some 0⟩)), (9, .int .i64 (k : Int))]) (fun _ => []) (fun k H' => hasH T n2 H' ∧ k ≤ ws.length ∧ ∀ j (h : j < ws.length), j < k → 0 ≤ ws[j] ∧ ws[j] ≤ 30) (fun k => ws.length - k) 0 (by repeat' (first | exact .nil | refine .cons rfl ?_)) rfl ⟨hH2, Nat.zero_le _, fun j _ h => absurd h (Nat.not_lt_zero _)⟩ ?_
  clear hH2
  rintro k H2 ⟨hH2, hk, hgood⟩
  repeat' (first | refine zA ?_ | (refine zM ?_; intro _ _) | (apply Ws <;> intro hg))
  refine WR.op (by first | exact gN | exact gS rfl) rfl (OpV.lenSI rfl hSq) ?_
  repeat' (first | refine zA ?_ | (refine zM ?_; intro _ _) | (apply Ws <;> intro hg))
  refine WC.condP rfl (fun hlt => ?_) (fun hlt => ?_)
  · have hk' : k < ws.length := by omega
    repeat' (first | refine zA ?_ | (refine zM ?_; intro _ _) | (apply Ws <;> intro hg))
    refine WR.idxSI (by first | exact gN | exact gS rfl) rfl rfl hSq rfl rfl hk' fun b o u hc => ?_
    repeat' (first | refine zA ?_ | (refine zM ?_; intro _ _) | (apply Ws <;> intro hg))
    refine WR.call (by first | exact gN | exact gS rfl) rfl rfl (in_fs _ _ _ _) ?_
    rintro _ _ ⟨rfl, rfl⟩
    repeat' (first | refine zA ?_ | (refine zM ?_; intro _ _) | (apply Ws <;> intro hg))
    refine WC.condP rfl (fun h => ?_) (fun h => ?_)
    · have hl : hourE r c xs ws p = 1 := by
        simp only [hourE, hck, ne_eq, not_true_eq_false, if_false, h24]
        rw [if_pos (fun hall => h (hall _ (List.getElem_mem hk')))]
      repeat' (first | refine zA ?_ | (refine zM ?_; intro _ _) | (apply Ws <;> intro hg))
      exact Ends.ret2 rfl rfl ⟨n2, by omega, hback hH2, .inl ⟨by rw [hl]; decide, by rw [hl]⟩⟩
    · repeat' (first | refine zA ?_ | (refine zM ?_; intro _ _) | (apply Ws <;> intro hg))
      refine Ends.loop (k + 1) (by omega) (by repeat' (first | exact .nil | refine .cons rfl ?_)) rfl ⟨hH2, hk', fun j hj hjk => ?_⟩
      rcases Nat.lt_or_ge j k with h2 | h2
      · exact hgood j hj h2
      · have : j = k := by omega
        subst this; exact Decidable.not_not.1 h
  have hall : ∀ x ∈ ws, 0 ≤ x ∧ x ≤ 30 := by
    intro x hxm
    obtain ⟨j, hj, rfl⟩ := List.mem_iff_getElem.1 hxm
    exact hgood j hj (by omega)
  clear hgood hlt hk
  repeat' (first | refine zA ?_ | (refine zM ?_; intro _ _) | (apply Ws <;> intro hg))
  refine WR.call (by first | exact gN | exact gS rfl) rfl rfl (place_fs hH2 hSv hx p) ?_
  rintro _ H3 ⟨rfl, n3, hn3, hH3⟩
  clear hH2
  repeat' (first | refine zA ?_ | (refine zM ?_; intro _ _) | (apply Ws <;> intro hg))
  refine WC.condP rfl (fun hp => ?_) (fun hp => ?_)
  · have hl : hourE r c xs ws p = 2 := by
      simp only [hourE, hck, ne_eq, not_true_eq_false, if_false, h24]; rw [if_neg (fun h => h hall), if_pos hp]
    repeat' (first | refine zA ?_ | (refine zM ?_; intro _ _) | (apply Ws <;> intro hg))
    exact Ends.ret2 rfl rfl ⟨n3, by omega, hback hH3, .inl ⟨by rw [hl]; decide, by rw [hl]⟩⟩
  have hl : hourE r c xs ws p = 0 := by simp only [hourE, hck, ne_eq, not_true_eq_false, if_false, h24]; rw [if_neg (fun h => h hall), if_neg hp]
  have hp' := Decidable.not_not.1 hp
  obtain ⟨q, rfl⟩ : ∃ q : Nat, p = q := ⟨p.toNat, by omega⟩
  obtain ⟨best, hb⟩ := hex hl
  have hbge := best_ge hh hc6 hb (p := q) (by omega)
  obtain ⟨rows, rfl⟩ : ∃ rows : Nat, r = rows := ⟨r.toNat, by omega⟩
  obtain ⟨c, rfl⟩ : ∃ c' : Nat, c = c' := ⟨c.toNat, by omega⟩
  rw [Int.toNat_natCast] at hh hc6 hb
  have hrc : xs.length = rows * c := by
    have : ((rows * c : Nat) : Int) = (rows : Int) * (c : Int) := by simp
    omega
  repeat' (first | refine zA ?_ | (refine zM ?_; intro _ _) | (apply Ws <;> intro hg))
  refine WC.loop (fun s : Nat × Nat => [(1, vw), (2, .int .i64 (q : Int)), (3, .pointer (some ⟨n, 0, some 0⟩)), (10, .int .i64 (s.1 : Int))]) (fun _ => []) (fun s H' => hasH T s.2 H' ∧ n ≤ s.2 ∧ s.1 ≤ ws.length ∧ ∀ j, j < s.1 → deep best (padded xs) (ws.getD j 0) q ≠ 0) (fun s => ws.length - s.1) (0, n3) (by repeat' (first | exact .nil | refine .cons rfl ?_)) rfl ⟨hH3, by simp only; omega, Nat.zero_le _, fun j h => absurd h (Nat.not_lt_zero _)⟩ ?_
  clear hH3
  rintro ⟨k, n4⟩ H4 ⟨hH4, hn4, hk, hno⟩
  simp only at hH4 hn4 hk hno
  dsimp only
  repeat' (first | refine zA ?_ | (refine zM ?_; intro _ _) | (apply Ws <;> intro hg))
  refine WR.op (by first | exact gN | exact gS rfl) rfl (OpV.lenSI rfl hSq) ?_
  repeat' (first | refine zA ?_ | (refine zM ?_; intro _ _) | (apply Ws <;> intro hg))
  refine WC.condP rfl (fun hlt => ?_) (fun hlt => ?_)
  · have hk' : k < ws.length := by omega
    have hwk := hall ws[k] (List.getElem_mem hk')
    have hdn : 0 ≤ deep best (padded xs) ws[k] q := by unfold deep; omega
    repeat' (first | refine zA ?_ | (refine zM ?_; intro _ _) | (apply Ws <;> intro hg))
    refine WR.idxSI (by first | exact gN | exact gS rfl) rfl rfl hSq rfl rfl hk' fun b o u hc => ?_
    repeat' (first | refine zA ?_ | (refine zM ?_; intro _ _) | (apply Ws <;> intro hg))
    refine WR.call (by first | exact gN | exact gS rfl) rfl rfl (depthR_fs hH4 hSv hh hc6 ⟨by omega, by omega⟩ hrc (by omega) hb hwk) ?_
    rintro _ H5 ⟨rfl, n5, hn5, hH5⟩
    repeat' (first | refine zA ?_ | (refine zM ?_; intro _ _) | (apply Ws <;> intro hg))
    refine WC.condP rfl (fun h0 => ?_) (fun h0 => ?_)
    · repeat' (first | refine zA ?_ | (refine zM ?_; intro _ _) | (apply Ws <;> intro hg))
      refine Ends.ret2 rfl rfl ⟨n5, by omega, hback hH5, .inr ⟨hl, ⟨best, hb, .inl ⟨k, hk', ?_, hno, rfl⟩⟩⟩⟩
      rw [getD_eq hk', Int.toNat_natCast]; omega
    · repeat' (first | refine zA ?_ | (refine zM ?_; intro _ _) | (apply Ws <;> intro hg))
      refine Ends.loop (k + 1, n5) (by simp only; omega) (by repeat' (first | exact .nil | refine .cons rfl ?_)) rfl ⟨hH5, by simp only; omega, hk', fun j hj => ?_⟩
      rcases Nat.lt_or_ge j k with h2 | h2
      · exact hno j h2
      · have : j = k := by simp only at hj; omega
        subst this
        rw [getD_eq hk']; omega
  have hkn : k = ws.length := by omega
  subst hkn
  repeat' (first | refine zA ?_ | (refine zM ?_; intro _ _) | (apply Ws <;> intro hg))
  exact Ends.ret2 rfl rfl ⟨n4, by omega, hback hH4, .inr ⟨hl, ⟨best, hb, .inr ⟨hno, rfl⟩⟩⟩⟩

theorem large_fs {M : HL} {n : Nat} {H : Heap} (hH : hasH M n H) {v : Value} {xs : List Int} (hS : Sl M 1 v (ints xs)) : FS C 15 [v] H (fun e H' => e = .bool (decide ((60 : Int) < xs.length)) ∧ H' = H) := by
  refine FS.intro (pf := pf15) rfl rfl rfl ?_
  repeat' (first | refine zA ?_ | (refine zM ?_; intro _ _) | (apply Ws <;> intro hg))
  refine WR.op (by first | exact gN | exact gS rfl) rfl (OpV.lenSI rfl hS) ?_
  repeat' (first | refine zA ?_ | (refine zM ?_; intro _ _) | (apply Ws <;> intro hg))
  exact Ends.ret1 rfl ⟨rfl, rfl⟩

theorem EbbHours_fs {M : HL} {n : Nat} {H : Heap} (hH : hasH M n H) {r c p : Int} {v vw : Value} {xs ws : List Int} (hS : Sl M 1 v (ints xs)) (hSw : Sl M 1 vw (ints ws)) :
    FS C 4 [.agg #[.int .i64 r, .int .i64 c, v], vw, .int .i64 p] H (fun e H' => e = .bool true) := by
  have h1 := hS.one_
  refine FS.intro (pf := pf4) rfl rfl rfl ?_
  repeat' (first | refine zA ?_ | (refine zM ?_; intro _ _) | (apply Ws <;> intro hg))
  rename_i H1 hH1
  have hSv : Sl ((n, .row 24 0 0 [.int .i64 r, .int .i64 c, v]) :: M) 1 v (ints xs) := hS.cons
  have hSq : Sl ((n, .row 24 0 0 [.int .i64 r, .int .i64 c, v]) :: M) 1 vw (ints ws) := hSw.cons
  refine WR.call (by first | exact gN | exact gS rfl) rfl rfl (large_fs hH1 hSv) ?_
  rintro _ _ ⟨rfl, rfl⟩
  repeat' (first | refine zA ?_ | (refine zM ?_; intro _ _) | (apply Ws <;> intro hg))
  · refine WR.call (by first | exact gN | exact gS rfl) rfl rfl (FS.works (C := C) (R := fun v H' => v = .bool true) rfl) ?_
    rintro _ _ rfl
    repeat' (first | refine zA ?_ | (refine zM ?_; intro _ _) | (apply Ws <;> intro hg))
    exact Ends.ret1 rfl rfl
  have hx : xs.length ≤ 1000 := by omega
  refine WR.call (by first | exact gN | exact gS rfl) rfl rfl (large_fs hH1 hSq) ?_
  rintro _ _ ⟨rfl, rfl⟩
  repeat' (first | refine zA ?_ | (refine zM ?_; intro _ _) | (apply Ws <;> intro hg))
  refine WC.condP rfl (fun hlw => ?_) (fun hlw => ?_)
  · repeat' (first | refine zA ?_ | (refine zM ?_; intro _ _) | (apply Ws <;> intro hg))
    refine WR.call (by first | exact gN | exact gS rfl) rfl rfl (FS.works (C := C) (R := fun v H' => v = .bool true) rfl) ?_
    rintro _ _ rfl
    repeat' (first | refine zA ?_ | (refine zM ?_; intro _ _) | (apply Ws <;> intro hg))
    exact Ends.ret1 rfl rfl
  have hw : ws.length ≤ 1000 := by omega
  repeat' (first | refine zA ?_ | (refine zM ?_; intro _ _) | (apply Ws <;> intro hg))
  refine WR.call (by first | exact gN | exact gS rfl) rfl rfl (Hour_fs hH1 hSv hx hSq hw p) ?_
  rintro e1 H2 ⟨n2, hn2, hH2, hres⟩
  have hex : hourE r c xs ws p = 0 → ∃ best, Lowest c.toNat xs.length (padded xs) xs.length best := by
    intro h0
    rcases hres with ⟨hne, _⟩ | ⟨_, best, hb, _⟩
    · exact absurd h0 hne
    · exact ⟨best, hb⟩
  have hE : ∃ a e : Int, e1 = .tuple #[.int .i64 a, .int .i64 e] := by
    rcases hres with ⟨_, rfl⟩ | ⟨_, best, hb, ⟨k, _, _, _, rfl⟩ | ⟨_, rfl⟩⟩
    · exact ⟨_, _, rfl⟩
    · exact ⟨_, _, rfl⟩
    · exact ⟨_, _, rfl⟩
  obtain ⟨a, e, rfl⟩ := hE
  repeat' (first | refine zA ?_ | (refine zM ?_; intro _ _) | (apply Ws <;> intro hg))
  refine WR.call (by first | exact gN | exact gS rfl) rfl rfl (HourR_fs hH2 hSv hx hSq hw p hex) ?_
  rintro e2 H3 ⟨n3, hn3, hH3, hres2⟩
  have hsame : e2 = .tuple #[.int .i64 a, .int .i64 e] := by
    rcases hres with ⟨hne, h2⟩ | ⟨h0, best, hb, h2⟩
    · rcases hres2 with ⟨_, h3⟩ | ⟨h3, _⟩
      · rw [h3]; exact h2.symm
      · exact absurd h3 hne
    · rcases hres2 with ⟨h3, _⟩ | ⟨_, best', hb', h3⟩
      · exact absurd h0 h3
      · have hck : checkE r c xs = 0 := by
          by_cases hc : checkE r c xs = 0
          · exact hc
          · rw [hourE, if_pos hc] at h0; exact absurd h0 hc
        have := hb'.unique (HS_of hck).1 (Nat.le_refl _) hb
        subst this
        rcases h2 with ⟨k, hk, k0, kn, h2⟩ | ⟨hn, h2⟩
        · rcases h3 with ⟨j, hj, j0, jn, h3⟩ | ⟨hn, h3⟩
          · have : j = k := by
              rcases Nat.lt_trichotomy j k with h | h | h
              · exact absurd j0 (kn j h)
              · exact h
              · exact absurd k0 (jn k h)
            subst this; rw [h3]; exact h2.symm
          · exact absurd k0 (hn k hk)
        · rcases h3 with ⟨j, hj, j0, jn, h3⟩ | ⟨_, h3⟩
          · exact absurd j0 (hn j hj)
          · rw [h3]; exact h2.symm
  subst hsame
  repeat' (first | refine zA ?_ | (refine zM ?_; intro _ _) | (apply Ws <;> intro hg))
  · refine WR.call (by first | exact gN | exact gS rfl) rfl rfl (FS.works (C := C) (R := fun v H' => v = .bool true) rfl) ?_
    rintro _ _ rfl
    repeat' (first | refine zA ?_ | (refine zM ?_; intro _ _) | (apply Ws <;> intro hg))
    exact Ends.ret1 rfl rfl
  all_goals exact absurd rfl (by assumption)

end Go.Proofs.Ytmogipomnjihcaa.Eb

namespace Go.Proofs.Ytmogipomnjihcaa.Eb
open Go Go.Abs Go.Low
set_option linter.unusedVariables false
set_option linter.unusedSimpArgs false
attribute [local irreducible] gOK WS WC WR WD Ends FS YS OpV seqK blockK loopK midK retK rdK asgK rangeEnd sat Cell

/-- The place in the opposite column. -/
def mir (c x : Nat) : Nat := x - x % c + (c - 1 - x % c)
def mirR (c r x : Nat) : Nat := if x < r then mir c x else x

theorem mod_bd {c x : Nat} (hc : 1 ≤ c) : x % c < c ∧ x % c ≤ x := ⟨Nat.mod_lt _ hc, Nat.mod_le _ _⟩

theorem mir_lt {c rows r x : Nat} (hc : 1 ≤ c ∧ c ≤ 6) (hr : r = rows * c) (hx : x < r) : mir c x < r := by
  subst hr; unfold mir
  rcases cases6 hc with rfl | rfl | rfl | rfl | rfl | rfl <;> omega
theorem mir_mir {c x : Nat} (hc : 1 ≤ c ∧ c ≤ 6) : mir c (mir c x) = x := by
  unfold mir
  rcases cases6 hc with rfl | rfl | rfl | rfl | rfl | rfl <;> omega

theorem mir_nbrs {c rows r x y : Nat} (hc : 1 ≤ c ∧ c ≤ 6) (hr : r = rows * c) (hx : x < r) (hy : y < r) (h : y ∈ nbrs c r x) : mir c y ∈ nbrs c r (mir c x) := by
  rw [nbrs_iff hc hx hy] at h
  rw [nbrs_iff hc (mir_lt hc hr hx) (mir_lt hc hr hy)]
  unfold mir
  rcases cases6 hc with rfl | rfl | rfl | rfl | rfl | rfl <;> omega
theorem mir_out {c rows r x : Nat} (hc : 1 ≤ c ∧ c ≤ 6) (hr : r = rows * c) (hx : x < r) (h : r ∈ nbrs c r x) : r ∈ nbrs c r (mir c x) := by
  rw [nbrs_out hx] at h
  rw [nbrs_out (mir_lt hc hr hx)]
  subst hr
  unfold mir
  rcases cases6 hc with rfl | rfl | rfl | rfl | rfl | rfl <;> omega

section
variable {c rows r : Nat} (hc : 1 ≤ c ∧ c ≤ 6) (hcr : c ≤ r) (hr : r = rows * c)
include hc hcr hr

omit hcr in
theorem mirR_le {x : Nat} (hx : x ≤ r) : mirR c r x ≤ r := by
  unfold mirR
  split
  · exact Nat.le_of_lt (mir_lt hc hr (by assumption))
  · exact hx
omit hcr in
theorem mirR_mirR {x : Nat} : mirR c r (mirR c r x) = x := by
  unfold mirR
  by_cases h : x < r
  · rw [if_pos h, if_pos (mir_lt hc hr h), mir_mir hc]
  · rw [if_neg h, if_neg h]
theorem mirR_nbrs {x y : Nat} (hx : x ≤ r) (hy : y ∈ nbrs c r x) : mirR c r y ∈ nbrs c r (mirR c r x) := by
  have hyr := nbrs_le hc.1 hcr hx hy
  have hne : y ≠ x := fun e => nbrs_ne hc.1 hcr (e ▸ hy)
  unfold mirR
  by_cases h1 : x < r
  · rw [if_pos h1]
    by_cases h2 : y < r
    · rw [if_pos h2]; exact mir_nbrs hc hr h1 h2 hy
    · have : y = r := by omega
      subst this; rw [if_neg h2]; exact mir_out hc hr h1 hy
  · have : x = r := by omega
    subst this
    rw [if_neg h1, if_pos (show y < x by omega)]
    have h2 : y < x := by omega
    rw [nbrs_in hcr (mir_lt hc hr h2)]
    rw [nbrs_in hcr h2, ← nbrs_out h2] at hy
    have := mir_out hc hr h2 hy
    rwa [nbrs_out (mir_lt hc hr h2)] at this

theorem reach_mir {hs hs' : List Int} (hm : ∀ y, y ≤ r → hs'.getD (mirR c r y) 0 = hs.getD y 0) {t : Int} {y : Nat} (h : Go.Low.Reach c r hs r t y) : y ≤ r ∧ Go.Low.Reach c r hs' r t (mirR c r y) := by
  induction h with
  | start h =>
    refine ⟨Nat.le_refl _, ?_⟩
    have h0 : mirR c r r = r := by unfold mirR; rw [if_neg (Nat.lt_irrefl _)]
    rw [h0]
    exact .start (by rw [← hm r (Nat.le_refl _), h0] at h; exact h)
  | step _ hy ht ih =>
    have hyr := nbrs_le hc.1 hcr ih.1 hy
    exact ⟨hyr, .step ih.2 (mirR_nbrs hc hcr hr ih.1 hy) (by rw [hm _ hyr]; exact ht)⟩

theorem lowest_mir {hs hs' b b' : List Int} (hh : HS c r hs) (hh' : HS c r hs') (hm : ∀ y, y ≤ r → hs'.getD (mirR c r y) 0 = hs.getD y 0) (hl : Lowest c r hs r b) (hl' : Lowest c r hs' r b') {y : Nat} (hy : y ≤ r) :
    b'.getD (mirR c r y) 0 = b.getD y 0 := by
  have hm' : ∀ y, y ≤ r → hs.getD (mirR c r y) 0 = hs'.getD y 0 := by
    intro y hy
    rw [← hm _ (mirR_le hc hr hy), mirR_mirR hc hr]
  have hy' := mirR_le hc hr hy
  have e1 := best_le hh hc.2 hl hy
  have e2 := best_le hh' hc.2 hl' hy'
  have a1 := (hl.out.done hh (Nat.le_refl _) e1 hy).1 (Int.le_refl _)
  have a2 := (hl'.out.done hh' (Nat.le_refl _) e2 hy').1 (Int.le_refl _)
  have b1 := (hl'.out.done hh' (Nat.le_refl _) e1 hy').2 (reach_mir hc hcr hr hm a1).2
  have b2 := (reach_mir hc hcr hr hm' a2).2
  rw [mirR_mirR hc hr] at b2
  have b3 := (hl.out.done hh (Nat.le_refl _) e2 hy).2 b2
  omega

omit hcr in
theorem RM_mir {K K' : List Bool} (hK : ∀ y, K.getD y false = true → y < r) (hm : ∀ y, y < r → K.getD y false = true → K'.getD (mir c y) false = true) {p y : Nat} (h : RM c r K p y) : RM c r K' (mir c p) (mir c y) := by
  induction h with
  | start h => exact .start (hm _ (hK _ h) h)
  | step hx hy ht ih => exact .step ih (mir_nbrs hc hr (hK _ hx.on) (hK _ ht) hy) (hm _ (hK _ ht) ht)
end

theorem len_le_of_rel : ∀ {l m : List Nat} (R : Nat → Nat → Prop), l.Nodup → (∀ a ∈ l, ∃ b ∈ m, R a b) → (∀ a ∈ l, ∀ a' ∈ l, ∀ b, R a b → R a' b → a = a') → l.length ≤ m.length
  | [], m, R, _, _, _ => Nat.zero_le _
  | a :: l, m, R, hn, h, hi => by
    obtain ⟨b, hb, hab⟩ := h a (by simp)
    rw [List.nodup_cons] at hn
    have ih := len_le_of_rel (l := l) (m := m.erase b) R hn.2 (fun a' ha' => by
      obtain ⟨b', hb', hr⟩ := h a' (by simp [ha'])
      refine ⟨b', (List.mem_erase_of_ne (fun e => ?_)).2 hb', hr⟩
      subst e
      have := hi a (by simp) a' (by simp [ha']) b' hab hr
      subst this
      exact hn.1 ha') (fun x hx y hy => hi x (by simp [hx]) y (by simp [hy]))
    rw [List.length_erase_of_mem hb] at ih
    have : 1 ≤ m.length := by
      cases m with
      | nil => cases hb
      | cons x m => simp
    simp only [List.length_cons]
    omega

theorem pools_mir_le {c rows r : Nat} (hc : 1 ≤ c ∧ c ≤ 6) (hcr : c ≤ r) (hr : r = rows * c) {K K' : List Bool} (hK : ∀ y, K.getD y false = true → y < r) (hK' : ∀ y, K'.getD y false = true → y < r)
    (hm : ∀ y, y < r → K.getD y false = true → K'.getD (mir c y) false = true) (hm' : ∀ y, y < r → K'.getD y false = true → K.getD (mir c y) false = true) : (poolsM c r K r).length ≤ (poolsM c r K' r).length := by
  rw [poolsM, poolsM, List.length_map, List.length_map]
  refine len_le_of_rel (fun f g => RM c r K' g (mir c f)) ((firsts_sorted c r K r).imp (fun h => Nat.ne_of_lt h)) (fun f hf => ?_) (fun f hf f' hf' g h1 h2 => ?_)
  · have h1 := (mem_firsts.1 hf).2
    obtain ⟨g, hg, hr2⟩ := has_first hc hcr hK' (hm f (mem_firsts.1 hf).1 h1.1)
    exact ⟨g, mem_firsts.2 ⟨hK' _ hg.1, hg⟩, hr2⟩
  · have h3 := RM_mir hc hr hK' hm' (RM.trans (RM.symm hc hcr hK' h1) h2)
    rw [mir_mir hc, mir_mir hc] at h3
    exact first_eq hc hcr hK (mem_firsts.1 hf).2 (mem_firsts.1 hf').2 h3 (.start (mem_firsts.1 hf').2.1)

theorem kept_mir {c rows r : Nat} (hc : 1 ≤ c ∧ c ≤ 6) (hcr : c ≤ r) (hr : r = rows * c) (hr36 : r ≤ 36) {hs hs' b b' ds ds' : List Int} {w : Int} (hh : HS c r hs) (hh' : HS c r hs') (hm : ∀ y, y ≤ r → hs'.getD (mirR c r y) 0 = hs.getD y 0)
    (hl : Lowest c r hs r b) (hl' : Lowest c r hs' r b') (hd : Depths r hs b w ds) (hd' : Depths r hs' b' w ds') {x : Nat} (hx : x < r) : b'.getD (mir c x) 0 = b.getD x 0 ∧ ds'.getD (mir c x) 0 = ds.getD x 0 := by
  have h1 := lowest_mir hc hcr hr hh hh' hm hl hl' (Nat.le_of_lt hx)
  have h2 := hm x (Nat.le_of_lt hx)
  have h3 : mirR c r x = mir c x := by unfold mirR; rw [if_pos hx]
  rw [h3] at h1 h2
  have h4 := mir_lt hc hr hx
  have h5 := hd.at_ x (by omega)
  have h6 := hd'.at_ (mir c x) (by omega)
  rw [if_pos hx] at h5
  rw [if_pos h4, h1, h2] at h6
  exact ⟨h1, by rw [h5, h6]⟩

theorem pools_mir {c rows r : Nat} (hc : 1 ≤ c ∧ c ≤ 6) (hcr : c ≤ r) (hr : r = rows * c) (hr36 : r ≤ 36) {hs hs' b b' ds ds' : List Int} {w : Int} {K K' : List Bool} (hh : HS c r hs) (hh' : HS c r hs') (hm : ∀ y, y ≤ r → hs'.getD (mirR c r y) 0 = hs.getD y 0)
    (hl : Lowest c r hs r b) (hl' : Lowest c r hs' r b') (hd : Depths r hs b w ds) (hd' : Depths r hs' b' w ds') (hK : KeptR r b ds w K) (hK' : KeptR r b' ds' w K') : (poolsM c r K r).length = (poolsM c r K' r).length := by
  have hk := fun {x : Nat} (hx : x < r) => kept_mir hc hcr hr hr36 hh hh' hm hl hl' hd hd' hx
  have hKr : ∀ y, K.getD y false = true → y < r := fun y h => ((hK.2 y).1 h).1
  have hKr' : ∀ y, K'.getD y false = true → y < r := fun y h => ((hK'.2 y).1 h).1
  have m1 : ∀ y, y < r → K.getD y false = true → K'.getD (mir c y) false = true := by
    intro y hy h
    have h1 := (hK.2 y).1 h
    have h2 := hk hy
    exact (hK'.2 _).2 ⟨mir_lt hc hr hy, by rw [h2.1]; exact h1.2.1, by rw [h2.2]; exact h1.2.2⟩
  have m2 : ∀ y, y < r → K'.getD y false = true → K.getD (mir c y) false = true := by
    intro y hy h
    have h1 := (hK'.2 y).1 h
    have h2 := hk (mir_lt hc hr hy)
    rw [mir_mir hc] at h2
    exact (hK.2 _).2 ⟨mir_lt hc hr hy, by rw [← h2.1]; exact h1.2.1, by rw [← h2.2]; exact h1.2.2⟩
  exact Nat.le_antisymm (pools_mir_le hc hcr hr hKr hKr' m1 m2) (pools_mir_le hc hcr hr hKr' hKr m2 m1)
end Go.Proofs.Ytmogipomnjihcaa.Eb

namespace Go.Abs
open Go
set_option linter.unusedVariables false
section
variable {C : CW} {nt : Nat} {L : Env} {D : List Nat} {H : Heap} {K : St → Prop} {M : HL} {n i d : Nat} {gd : Option (Tmp × Bool)} {lo : List Nat} {l : List POp} {rs : List Rd}
theorem zdf {x : Operand} {off : Nat} (kk : WD C nt (⟨i, some d, .fieldAddr x off, gd, lo⟩ :: l) rs L D H K) : WD C nt (⟨i, some d, .fieldAddr x off, gd, lo⟩ :: l) rs L D H K := kk
theorem WD.callV {f : Operand} {g : FuncId} {va vb : List Value} {xs : List Operand} {vs : List Value} (hg : gOK L gd) (hd : Nat.blt d nt = true) (hf : ev L f = some (.func (.func g) va.toArray vb.toArray)) (hx : evs L xs = some vs)
    {R : Value → Heap → Prop} (hc : FS C g (va ++ vs ++ vb) H R) (k : ∀ v H', R v H' → stands H' lo rs = true ∧ WD C nt l rs ((d, v) :: L) D H' K) : WD C nt (⟨i, some d, .callV f xs, gd, lo⟩ :: l) rs L D H K := by
  obtain ⟨v, H1, ⟨m1, h1⟩, h2⟩ := hc
  intro t ht
  obtain ⟨ks, kk⟩ := k v H1 h2
  obtain ⟨m2, s', h3, h4⟩ := kk _ (ht.put d v)
  refine ⟨max m1 m2, s', ?_, h4⟩
  have hv : opA C.c.P (.callV f xs) (evalO t) H = .call g (va ++ vs ++ vb) := by simp only [opA, ev_ok ht hf, evs_ok ht hx, callVA]
  have hn : ∀ s s', noteRd ⟨i, some d, .callV f xs, gd, lo⟩ s s' rs = rs := by
    intro s s'; simp only [noteRd]; cases wantedA s.t ⟨i, some d, .callV f xs, gd, lo⟩ <;> rfl
  simp only [stepOpsD, doOp, hg.wanted ht, cond_true, hv, ans, run_mono (Nat.le_max_left m1 m2) _ _ h1, afterOp, putT, hd, stOf, ks, hn]
  exact stepOpsD_mono' (run_mono (Nat.le_max_right m1 m2)) h3

theorem WD.mkS {e m : Nat} {z : Value} {x y : Operand} {kd kd2 : IntKind} (hg : gOK L gd) (hd : Nat.blt d nt = true) (hH : hasH M n H) (hx : ev L x = some (.int kd (m : Int))) (hy : ev L y = some (.int kd2 (m : Int)))
    (hm : m ≤ 100000) (hz : one z = true) (hs : ∀ H', hasH ((n, .row e 0 0 (List.replicate m z)) :: M) (n + 1) H' → stands H' lo rs = true)
    (kk : ∀ H', hasH ((n, .row e 0 0 (List.replicate m z)) :: M) (n + 1) H' → WD C nt l rs ((d, .slice (some ⟨n, 0, some 0⟩) m (2 * m + 1)) :: L) D H' K) : WD C nt (⟨i, some d, .mkS e [z] x y, gd, lo⟩ :: l) rs L D H K := by
  have hf : (List.replicate m [z]).flatten = List.replicate m z := by
    clear hx hy hm kk hs
    induction m with
    | zero => rfl
    | succ m ih => simp [List.replicate_succ, ih]
  have e1 : natOf (.int kd (m : Int)) = some m := rfl
  have e2 : natOf (.int kd2 (m : Int)) = some m := rfl
  have h2 : hasH ((n, .row e 0 0 (List.replicate m z)) :: M) (n + 1) (H.row e (List.replicate m z)) := hH.row e (by rw [List.all_eq_true]; intro q hq; rw [(List.mem_replicate.1 hq).2]; exact hz)
  refine WD.op hg hd (H' := H.row e (List.replicate m z)) (v := .slice (some ⟨n, 0, some 0⟩) m (2 * m + 1)) (fun t ht => ?_) rfl (hs _ h2) (kk _ h2)
  simp only [opA, ev_ok ht hx, ev_ok ht hy, oMkS, e1, e2, hf, newAddr, hH.next]
  have b1 : Nat.ble m m = true := Nat.ble_eq_true_of_le (Nat.le_refl _)
  have b2 : Nat.ble m 100000 = true := Nat.ble_eq_true_of_le hm
  rw [b1, b2]; rfl
end
end Go.Abs
namespace Go.Proofs.Ytmogipomnjihcaa.Eb
open Go Go.Abs Go.Low
set_option linter.unusedVariables false
set_option linter.unusedSimpArgs false
attribute [local irreducible] gOK WS WC WR WD Ends FS YS OpV seqK blockK loopK midK retK rdK asgK rangeEnd sat Cell

theorem to_fs {M : HL} {n : Nat} {H : Heap} (hH : hasH M n H) {rw : Int} {c bs x : Nat} {v : Value} (hc : 1 ≤ c ∧ c ≤ 6) (hx : x < 36) (hms : (bs, .row 24 0 0 [.int .i64 rw, .int .i64 (c : Int), v]) ∈ M) :
    FS C 51 [.int .i64 (x : Int), .pointer (some ⟨bs, 0, some 0⟩)] H (fun e H' => e = .int .i64 (mir c x : Int) ∧ H' = H) := by
  have hmod : ((x : Int) % (c : Int)) = ((x % c : Nat) : Int) := by omega
  have hbd := mod_bd (x := x) hc.1
  refine FS.intro (pf := pf51) rfl rfl rfl ?_
  repeat' (first | refine zA ?_ | (refine zM ?_; intro _ _) | (apply Ws <;> intro hg))
  refine WR.op (by first | exact gN | exact gS rfl) rfl (OpV.rem' (c := ((x % c : Nat) : Int)) rfl rfl hmod (by omega) (by omega)) ?_
  refine WR.op (by first | exact gN | exact gS rfl) rfl (OpV.sub rfl rfl (by omega)) ?_
  repeat' (first | refine zA ?_ | (refine zM ?_; intro _ _) | (apply Ws <;> intro hg))
  refine WR.op (by first | exact gN | exact gS rfl) rfl (OpV.sub rfl rfl (by omega)) ?_
  repeat' (first | refine zA ?_ | (refine zM ?_; intro _ _) | (apply Ws <;> intro hg))
  refine WR.op (by first | exact gN | exact gS rfl) rfl (OpV.rem' (c := ((x % c : Nat) : Int)) rfl rfl hmod (by omega) (by omega)) ?_
  refine WR.op (by first | exact gN | exact gS rfl) rfl (OpV.sub rfl rfl (by omega)) ?_
  repeat' (first | refine zA ?_ | (refine zM ?_; intro _ _) | (apply Ws <;> intro hg))
  refine Ends.ret1 rfl ⟨?_, rfl⟩
  unfold mir
  congr 1
  omega
end Go.Proofs.Ytmogipomnjihcaa.Eb

namespace Go.Proofs.Ytmogipomnjihcaa.Eb
open Go Go.Abs Go.Low
set_option linter.unusedVariables false
set_option linter.unusedSimpArgs false
attribute [local irreducible] gOK WS WC WR WD Ends FS YS OpV seqK blockK loopK midK retK rdK asgK rangeEnd sat Cell

set_option maxHeartbeats 2000000 in
theorem EbbMirrored_fs {M : HL} {n : Nat} {H : Heap} (hH : hasH M n H) {a b la : Int} {hs : List Int} (hb : Bytes a b hs) (ho1 : 0 ≤ la ∧ la ≤ 255) :
    FS C 12 [.agg (strand a b hs).toArray, .int .u8 la] H (fun e H' => e = .bool true) := by
  have hone := strand_one a b hs
  have hck := made_check (m := 6) (by omega) hb
  have hgood := check_ok hck
  obtain ⟨hh, hc6, hr36⟩ := HS_of hck
  have hl1 : 1 ≤ (heightsOf 6 a b hs).length := hh.cr |> Nat.le_trans hh.c1
  refine FS.intro (pf := pf12) rfl rfl rfl ?_
  repeat' (first | refine zA ?_ | (refine zM ?_; intro _ _) | (apply Ws <;> intro hg))
  rename_i H1 hH1
  refine WR.op (by first | exact gN | exact gS rfl) rfl (OpV.loadAll (k := 38) rfl hH1 (.head _) (.row _ _ _ _) (by simp [strand, hb.len])) ?_
  refine WR.call (by first | exact gN | exact gS rfl) rfl rfl (made_fs hH1 (m := 6) (by omega) hb) ?_
  rintro _ H2 ⟨v, Mx, n2, rfl, hn2, hO, hH2⟩
  generalize hxs : heightsOf 6 a b hs = xs at hck hgood hh hr36 hl1 hO
  have hv := (hO.sl M).one_
  have hSv := hO.sl ((n, .row 60 0 0 (strand a b hs)) :: M)
  obtain ⟨rows, hrw⟩ : ∃ rows : Nat, side 6 a = rows := ⟨(side 6 a).toNat, by omega⟩
  obtain ⟨c, hcc⟩ : ∃ c : Nat, side 6 b = c := ⟨(side 6 b).toNat, by omega⟩
  rw [hrw, hcc] at hck hgood
  rw [hcc, Int.toNat_natCast] at hh hc6
  rw [hrw, hcc]
  obtain ⟨g1, g2, g3, g4, g5, g6⟩ := hgood
  have hrc : xs.length = rows * c := by
    have : ((rows * c : Nat) : Int) = (rows : Int) * (c : Int) := by simp
    omega
  have hc : 1 ≤ c ∧ c ≤ 6 := ⟨hh.c1, hc6⟩
  repeat' (first | refine zA ?_ | (refine zM ?_; intro _ _) | (apply Ws <;> intro hg))
  rename_i H3 hH3
  refine WR.storeAll (by first | exact gN | exact gS rfl) hH3 rfl rfl (ls := [.int .i64 (rows : Int), .int .i64 (c : Int), v]) rfl rfl (by first | exact .here | exact .there .here | exact .there (.there .here) | exact .there (.there (.there .here)) | exact .there (.there (.there (.there .here))) | exact .there (.there (.there (.there (.there .here))))) (by (repeat' (first | exact all_nil | refine all_cons (by first | rfl | assumption) ?_))) (by rfl) fun H4 hH4 => ?_
  clear hH3 hH2 hH1
  repeat' (first | refine zA ?_ | (refine zM ?_; intro _ _) | (apply Ws <;> intro hg))
  refine WR.op (by first | exact gN | exact gS rfl) rfl (OpV.lenSI rfl hSv) ?_
  repeat' (first | refine zA ?_ | (refine zM ?_; intro _ _) | (apply Ws <;> intro hg))
  refine WR.op (by first | exact gN | exact gS rfl) rfl (OpV.conv u5 u3 rfl (c := la) (IntWalk.i64_in _ (by omega))) ?_
  refine WR.op (by first | exact gN | exact gS rfl) rfl (OpV.rem' (c := la % 31) rfl rfl rfl (by omega) (by omega)) ?_
  obtain ⟨w, hw⟩ : ∃ w, la % 31 = w := ⟨_, rfl⟩
  have hwb : 0 ≤ w ∧ w ≤ 30 := by omega
  rw [hw]
  repeat' (first | refine zA ?_ | (refine zM ?_; intro _ _) | (apply Ws <;> intro hg))
  have hSv2 : Sl ((n2, .row 24 0 0 [.int .i64 (rows : Int), .int .i64 (c : Int), v]) :: (Mx ++ ((n, .row 60 0 0 (strand a b hs)) :: M))) 1 v (ints xs) := hSv.cons
  have hmT : (n2, Ch.row 24 0 0 [.int .i64 (rows : Int), .int .i64 (c : Int), v]) ∈ (n2, Ch.row 24 0 0 [.int .i64 (rows : Int), .int .i64 (c : Int), v]) :: (Mx ++ ((n, .row 60 0 0 (strand a b hs)) :: M)) := .head _
  generalize (n2, Ch.row 24 0 0 [.int .i64 (rows : Int), .int .i64 (c : Int), v]) :: (Mx ++ ((n, .row 60 0 0 (strand a b hs)) :: M)) = T at hmT hSv2 hH4
  refine WC.regionD ?_
  refine WD.op (by first | exact gN | exact gS rfl) rfl (OpV.field0 rfl) rfl (stands_nil _ _) ?_
  refine WD.load1 (by first | exact gN | exact gS rfl) rfl rfl (hH4.read (v := .int .i64 (rows : Int)) hmT (.row _ _ _ _) (Nat.zero_le _) rfl) ?_
  refine WD.op (by first | exact gN | exact gS rfl) rfl (OpV.field0 rfl) rfl (stands_nil _ _) ?_
  refine WD.load1 (by first | exact gN | exact gS rfl) rfl rfl (hH4.read (v := .int .i64 (c : Int)) hmT (.row _ _ _ _) (Nat.zero_le _) rfl) ?_
  (repeat' (first | refine d1 rfl ?_ | (refine zdf ?_; first | refine d2 rfl ?_ | refine d3 rfl ?_)))
  refine WD.mkS (by first | exact gN | exact gS rfl) rfl hH4 rfl rfl (by omega) rfl (fun H5 hH5 => ?_) fun H5 hH5 => ?_
  · exact stands_cons (.inr (holds_int (hH5.read (.tail _ hmT) (.row _ _ _ _) (Nat.zero_le _) rfl))) (stands_cons (.inr (holds_int (hH5.read (.tail _ hmT) (.row _ _ _ _) (Nat.zero_le _) rfl))) stands_nil')
  refine WD.op (by first | exact gN | exact gS rfl) rfl (OpV.bldT (vs := [(0, .int .i64 (rows : Int)), (1, .int .i64 (c : Int)), (2, .slice (some ⟨n2 + 1, 0, some 0⟩) xs.length (2 * xs.length + 1))]) rfl (cs := #[.int .i64 (rows : Int), .int .i64 (c : Int), .slice (some ⟨n2 + 1, 0, some 0⟩) xs.length (2 * xs.length + 1)]) (by rfl)) rfl (stands_nil _ _) ?_
  refine WD.new rfl hH5 rfl (fun H6 hH6 => ?_) fun H6 hH6 => ?_
  · exact stands_cons (.inr (holds_int (hH6.read (.tail _ (.tail _ hmT)) (.row _ _ _ _) (Nat.zero_le _) rfl))) (stands_cons (.inr (holds_int (hH6.read (.tail _ (.tail _ hmT)) (.row _ _ _ _) (Nat.zero_le _) rfl))) stands_nil')
  refine WD.toWR rfl ?_
  refine WR.storeAll (by first | exact gN | exact gS rfl) hH6 rfl rfl (ls := [.int .i64 (rows : Int), .int .i64 (c : Int), .slice (some ⟨n2 + 1, 0, some 0⟩) xs.length (2 * xs.length + 1)]) rfl rfl .here (by rfl) (by rfl) fun H7 hH7 => ?_
  have hH8 : hasH ((n2 + 1, .row 3 0 0 (ints (List.replicate xs.length 0))) :: (n2 + 1 + 1, .row 24 0 0 [.int .i64 (rows : Int), .int .i64 (c : Int), .slice (some ⟨n2 + 1, 0, some 0⟩) xs.length (2 * xs.length + 1)]) :: T) (n2 + 1 + 1 + 1) H7 := by
    have := hH7.swap
    rwa [show ints (List.replicate xs.length 0) = List.replicate xs.length (Value.int .i64 0) by simp [ints]]
  clear hH7 hH6 hH5 hH4
  have hm2 : (n2 + 1 + 1, Ch.row 24 0 0 [.int .i64 (rows : Int), .int .i64 (c : Int), .slice (some ⟨n2 + 1, 0, some 0⟩) xs.length (2 * xs.length + 1)]) ∈ (n2 + 1 + 1, Ch.row 24 0 0 [.int .i64 (rows : Int), .int .i64 (c : Int), .slice (some ⟨n2 + 1, 0, some 0⟩) xs.length (2 * xs.length + 1)]) :: T := .head _
  have hSv3 := hSv2.cons (p := (n2 + 1 + 1, Ch.row 24 0 0 [.int .i64 (rows : Int), .int .i64 (c : Int), .slice (some ⟨n2 + 1, 0, some 0⟩) xs.length (2 * xs.length + 1)]))
  replace hmT : (n2, Ch.row 24 0 0 [.int .i64 (rows : Int), .int .i64 (c : Int), v]) ∈ (n2 + 1 + 1, Ch.row 24 0 0 [.int .i64 (rows : Int), .int .i64 (c : Int), .slice (some ⟨n2 + 1, 0, some 0⟩) xs.length (2 * xs.length + 1)]) :: T := .tail _ hmT
  generalize (n2 + 1 + 1, Ch.row 24 0 0 [.int .i64 (rows : Int), .int .i64 (c : Int), .slice (some ⟨n2 + 1, 0, some 0⟩) xs.length (2 * xs.length + 1)]) :: T = T2 at hm2 hmT hSv3 hH8
  clear hSv2 hSv
  have hmt := fun {x : Nat} (h : x < xs.length) => mir_lt hc hrc h
  repeat' (first | refine zA ?_ | (refine zM ?_; intro _ _) | (apply Ws <;> intro hg))
  refine WR.op (by first | exact gN | exact gS rfl) rfl (OpV.lenSI rfl hSv3) ?_
  repeat' (first | refine zA ?_ | (refine zM ?_; intro _ _) | (apply Ws <;> intro hg))
  refine WC.loop (fun s : Nat × List Int => [(5, .pointer (some ⟨n2, 0, some 0⟩)), (6, .int .i64 (xs.length : Int)), (7, .int .i64 w), (8, .pointer (some ⟨n2 + 1 + 1, 0, some 0⟩)), (9, .func (.func 51) #[] #[.pointer (some ⟨n2, 0, some 0⟩)]), (40, v), (41, .int .i64 (xs.length : Int)), (42, .int .i64 (s.1 : Int))]) (fun _ => [])
    (fun s H => s.1 ≤ xs.length ∧ s.2.length = xs.length ∧ (∀ y, y < s.1 → s.2.getD (mir c y) 0 = xs.getD y 0) ∧ hasH ((n2 + 1, .row 3 0 0 (ints s.2)) :: T2) (n2 + 1 + 1 + 1) H) (fun s => xs.length - s.1) (0, List.replicate xs.length 0) (by repeat' (first | exact .nil | refine .cons rfl ?_)) rfl
    ⟨Nat.zero_le _, by simp, fun y hy => absurd hy (Nat.not_lt_zero _), hH8⟩ ?_
  clear hH8
  rintro ⟨k, zs⟩ H8 ⟨hk, hzl, hz, hH8⟩
  simp only at hk hzl hz hH8
  dsimp only
  repeat' (first | refine zA ?_ | (refine zM ?_; intro _ _) | (apply Ws <;> intro hg))
  refine WC.condP rfl (fun hlt => ?_) (fun hlt => ?_)
  · have hk' : k < xs.length := by omega
    have hmk := hmt hk'
    repeat' (first | refine zA ?_ | (refine zM ?_; intro _ _) | (apply Ws <;> intro hg))
    refine WR.idxSI (by first | exact gN | exact gS rfl) rfl rfl (hSv3.cons (p := (n2 + 1, .row 3 0 0 (ints zs)))) rfl rfl hk' fun b o u hc1 => ?_
    repeat' (first | refine zA ?_ | (refine zM ?_; intro _ _) | (apply Ws <;> intro hg))
    refine WC.regionD ?_
    (repeat' (first | refine d1 rfl ?_ | (refine zdf ?_; first | refine d2 rfl ?_ | refine d3 rfl ?_)))
    refine WD.load1 (by first | exact gN | exact gS rfl) rfl rfl (hH8.read (.tail _ hm2) (.row _ _ _ _) (Nat.zero_le _) rfl) ?_
    (repeat' (first | refine d1 rfl ?_ | (refine zdf ?_; first | refine d2 rfl ?_ | refine d3 rfl ?_)))
    refine WD.callV (va := []) (vb := [.pointer (some ⟨n2, 0, some 0⟩)]) (by first | exact gN | exact gS rfl) rfl rfl rfl (to_fs hH8 hc (by omega) (.tail _ hmT)) ?_
    rintro _ _ ⟨rfl, rfl⟩
    refine ⟨stands_cons (.inr (holds_at (hH8.read (.tail _ hm2) (.row _ _ _ _) (Nat.zero_le _) rfl) (by simp [same1, sameAddr_refl]))) stands_nil', ?_⟩
    refine WD.toWR rfl ?_
    repeat' (first | refine zA ?_ | (refine zM ?_; intro _ _) | (apply Ws <;> intro hg))
    refine WR.storeI (by first | exact gN | exact gS rfl) hH8 rfl rfl .here (by omega) fun H9 hH9 => ?_
    repeat' (first | refine zA ?_ | (refine zM ?_; intro _ _) | (apply Ws <;> intro hg))
    refine Ends.loop (k + 1, _) (by simp only; omega) (by repeat' (first | exact .nil | refine .cons rfl ?_)) rfl ⟨hk', by simpa using hzl, fun y hy => ?_, hH9⟩
    simp only at hy ⊢
    rw [getD_set (by omega)]
    have hxk : xs.getD k 0 = xs[k] := getD_eq hk'
    by_cases hyk : y = k
    · subst hyk; rw [if_pos rfl, hxk]
    · rw [if_neg (fun h => hyk (by rw [← mir_mir (x := y) hc, h, mir_mir hc])), hz y (by omega)]
  have hkn : k = xs.length := by omega
  subst hkn
  -- the mirrored heights
  have hzi : ∀ y, y < xs.length → zs.getD y 0 = xs.getD (mir c y) 0 := by
    intro y hy
    have := hz (mir c y) (hmt hy)
    rwa [mir_mir hc] at this
  have hzb : ∀ y, y < xs.length → 0 ≤ zs.getD y 0 ∧ zs.getD y 0 ≤ 30 := by
    intro y hy
    rw [hzi y hy, getD_eq (hmt hy)]
    exact g6 _ (List.getElem_mem _)
  have hck2 : checkE (rows : Int) (c : Int) zs = 0 := by
    have h1 : ∀ x ∈ zs, 0 ≤ x ∧ x ≤ 30 := by
      intro x hx
      obtain ⟨j, hj, rfl⟩ := List.mem_iff_getElem.1 hx
      rw [← getD_eq hj]
      exact hzb j (by omega)
    unfold checkE
    rw [if_neg (by omega), if_neg (by rw [hzl]; omega), if_pos h1]
  have hh2 : HS c xs.length (padded zs) := by
    have := (HS_of hck2).1
    rwa [Int.toNat_natCast, hzl] at this
  have hmir : ∀ y, y ≤ xs.length → (padded zs).getD (mirR c xs.length y) 0 = (padded xs).getD y 0 := by
    intro y hy
    rw [padded_get (by omega), padded_get (by omega)]
    unfold mirR
    by_cases h : y < xs.length
    · rw [if_pos h]; exact hz y h
    · rw [if_neg h, List.getD_eq_getElem?_getD, List.getD_eq_getElem?_getD, List.getElem?_eq_none (by omega), List.getElem?_eq_none (by omega)]
  have hlev1 : levelE (rows : Int) (c : Int) xs w = 0 := by simp only [levelE, hck, ne_eq, not_true_eq_false, if_false, hwb, and_self, if_true]
  have hlev2 : levelE (rows : Int) (c : Int) zs w = 0 := by simp only [levelE, hck2, ne_eq, not_true_eq_false, if_false, hwb, and_self, if_true]
  have hSo : Sl ((n2 + 1, .row 3 0 0 (ints zs)) :: T2) 1 (.slice (some ⟨n2 + 1, 0, some 0⟩) xs.length (2 * xs.length + 1)) (ints zs) :=
    .row (lo := 0) (cs := ints zs) (.head _) (.row _ _ _ _) (Nat.zero_le _) (by simp; omega) (by rw [Nat.sub_self, List.drop_zero, List.take_length]) (by simp) (.inr ⟨xs.length, rfl, Nat.le_refl _⟩)
  have hSx : Sl ((n2 + 1, .row 3 0 0 (ints zs)) :: T2) 1 v (ints xs) := hSv3.cons
  replace hmT : (n2, Ch.row 24 0 0 [.int .i64 (rows : Int), .int .i64 (c : Int), v]) ∈ (n2 + 1, Ch.row 3 0 0 (ints zs)) :: T2 := .tail _ hmT
  replace hm2 : (n2 + 1 + 1, Ch.row 24 0 0 [.int .i64 (rows : Int), .int .i64 (c : Int), .slice (some ⟨n2 + 1, 0, some 0⟩) xs.length (2 * xs.length + 1)]) ∈ (n2 + 1, Ch.row 3 0 0 (ints zs)) :: T2 := .tail _ hm2
  generalize (n2 + 1, Ch.row 3 0 0 (ints zs)) :: T2 = T3 at hSo hSx hmT hm2 hH8
  have hso1 := hSo.one_
  generalize (Value.slice (some ⟨n2 + 1, 0, some 0⟩) xs.length (2 * xs.length + 1)) = vo at hSo hm2 hso1
  clear hSv3
  repeat' (first | refine zA ?_ | (refine zM ?_; intro _ _) | (apply Ws <;> intro hg))
  refine WR.call (by first | exact gN | exact gS rfl) rfl rfl (Sills_fs hH8 hSx (by omega)) ?_
  rintro _ H4 ⟨n4, hn4, ⟨h0, _⟩ | ⟨_, va, Ma, b1, rfl, hOa, hH4, hl1⟩⟩
  · exact absurd hck h0
  clear hH8
  rw [Int.toNat_natCast] at hl1
  replace hmT : _ ∈ Ma ++ T3 := List.mem_append_right _ hmT
  replace hm2 : _ ∈ Ma ++ T3 := List.mem_append_right _ hm2
  replace hSx : Sl (Ma ++ T3) 1 v (ints xs) := hSx.mono (fun q hq => List.mem_append_right _ hq)
  replace hSo : Sl (Ma ++ T3) 1 vo (ints zs) := hSo.mono (fun q hq => List.mem_append_right _ hq)
  have hSa := hOa.sl T3
  generalize Ma ++ T3 = T4 at hH4 hmT hm2 hSx hSo hSa
  repeat' (first | refine zA ?_ | (refine zM ?_; intro _ _) | (apply Ws <;> intro hg))
  refine WR.call (by first | exact gN | exact gS rfl) rfl rfl (Sills_fs hH4 hSo (by omega)) ?_
  rintro _ H5 ⟨n5, hn5, ⟨h0, _⟩ | ⟨_, vb, Mb, b2, rfl, hOb, hH5, hl2⟩⟩
  · exact absurd hck2 h0
  clear hH4
  rw [Int.toNat_natCast, hzl] at hl2
  rw [hzl] at hOb
  replace hmT : _ ∈ Mb ++ T4 := List.mem_append_right _ hmT
  replace hm2 : _ ∈ Mb ++ T4 := List.mem_append_right _ hm2
  replace hSx : Sl (Mb ++ T4) 1 v (ints xs) := hSx.mono (fun q hq => List.mem_append_right _ hq)
  replace hSo : Sl (Mb ++ T4) 1 vo (ints zs) := hSo.mono (fun q hq => List.mem_append_right _ hq)
  replace hSa : Sl (Mb ++ T4) 1 va _ := hSa.mono (fun q hq => List.mem_append_right _ hq)
  have hSb := hOb.sl T4
  generalize Mb ++ T4 = T5 at hH5 hmT hm2 hSx hSo hSa hSb
  repeat' (first | refine zA ?_ | (refine zM ?_; intro _ _) | (apply Ws <;> intro hg))
  refine WR.call (by first | exact gN | exact gS rfl) rfl rfl (Depths_fs hH5 hSx (by omega) w) ?_
  rintro _ H6 ⟨n6, hn6, ⟨h0, _⟩ | ⟨_, vc, Mc, b3, d1', rfl, hOc, hH6, hl3, hd1⟩⟩
  · exact absurd hlev1 h0
  clear hH5
  rw [Int.toNat_natCast] at hl3
  have e3 := hl1.unique hh (Nat.le_refl _) hl3
  subst e3
  replace hmT : _ ∈ Mc ++ T5 := List.mem_append_right _ hmT
  replace hm2 : _ ∈ Mc ++ T5 := List.mem_append_right _ hm2
  replace hSx : Sl (Mc ++ T5) 1 v (ints xs) := hSx.mono (fun q hq => List.mem_append_right _ hq)
  replace hSo : Sl (Mc ++ T5) 1 vo (ints zs) := hSo.mono (fun q hq => List.mem_append_right _ hq)
  replace hSa : Sl (Mc ++ T5) 1 va _ := hSa.mono (fun q hq => List.mem_append_right _ hq)
  replace hSb : Sl (Mc ++ T5) 1 vb _ := hSb.mono (fun q hq => List.mem_append_right _ hq)
  have hSc := hOc.sl T5
  generalize Mc ++ T5 = T6 at hH6 hmT hm2 hSx hSo hSa hSb hSc
  repeat' (first | refine zA ?_ | (refine zM ?_; intro _ _) | (apply Ws <;> intro hg))
  refine WR.call (by first | exact gN | exact gS rfl) rfl rfl (Depths_fs hH6 hSo (by omega) w) ?_
  rintro _ H7 ⟨n7, hn7, ⟨h0, _⟩ | ⟨_, vd, Md, b4, d2', rfl, hOd, hH7, hl4, hd2⟩⟩
  · exact absurd hlev2 h0
  clear hH6
  rw [Int.toNat_natCast, hzl] at hl4
  rw [hzl] at hOd hd2
  have e4 := hl2.unique hh2 (Nat.le_refl _) hl4
  subst e4
  replace hmT : _ ∈ Md ++ T6 := List.mem_append_right _ hmT
  replace hm2 : _ ∈ Md ++ T6 := List.mem_append_right _ hm2
  replace hSx : Sl (Md ++ T6) 1 v (ints xs) := hSx.mono (fun q hq => List.mem_append_right _ hq)
  replace hSo : Sl (Md ++ T6) 1 vo (ints zs) := hSo.mono (fun q hq => List.mem_append_right _ hq)
  replace hSa : Sl (Md ++ T6) 1 va _ := hSa.mono (fun q hq => List.mem_append_right _ hq)
  replace hSb : Sl (Md ++ T6) 1 vb _ := hSb.mono (fun q hq => List.mem_append_right _ hq)
  replace hSc : Sl (Md ++ T6) 1 vc _ := hSc.mono (fun q hq => List.mem_append_right _ hq)
  have hSd := hOd.sl T6
  generalize Md ++ T6 = T7 at hH7 hmT hm2 hSx hSo hSa hSb hSc hSd
  have hne : ∀ a : Int, decide (a ≠ a) = false := by simp
  have hbl1 := hl1.len
  have hbl2 := hl2.len
  have hdl1 := hd1.len
  have hdl2 := hd2.len
  have hkm := fun {x : Nat} (hx : x < xs.length) => kept_mir hc hh.cr hrc hr36 hh hh2 hmir hl1 hl2 hd1 hd2 hx
  repeat' (first | refine zA ?_ | (refine zM ?_; intro _ _) | (apply Ws <;> intro hg))
  refine WR.op (by first | exact gN | exact gS rfl) rfl (OpV.lenS rfl hSa) ?_
  rw [show (ints (b1.take xs.length)).length = xs.length by simp; omega]
  (first | refine zA ?_ | (refine zM ?_; intro _ _) | (apply Ws <;> intro hg))
  (first | refine zA ?_ | (refine zM ?_; intro _ _) | (apply Ws <;> intro hg))
  rw [hne]
  repeat' (first | refine zA ?_ | (refine zM ?_; intro _ _) | (apply Ws <;> intro hg))
  refine WR.op (by first | exact gN | exact gS rfl) rfl (OpV.lenS rfl hSb) ?_
  rw [show (ints (b2.take xs.length)).length = xs.length by simp; omega]
  (first | refine zA ?_ | (refine zM ?_; intro _ _) | (apply Ws <;> intro hg))
  (first | refine zA ?_ | (refine zM ?_; intro _ _) | (apply Ws <;> intro hg))
  rw [hne]
  repeat' (first | refine zA ?_ | (refine zM ?_; intro _ _) | (apply Ws <;> intro hg))
  refine WR.op (by first | exact gN | exact gS rfl) rfl (OpV.lenS rfl hSc) ?_
  rw [show (ints (d1'.take xs.length)).length = xs.length by simp; omega]
  (first | refine zA ?_ | (refine zM ?_; intro _ _) | (apply Ws <;> intro hg))
  (first | refine zA ?_ | (refine zM ?_; intro _ _) | (apply Ws <;> intro hg))
  rw [hne]
  repeat' (first | refine zA ?_ | (refine zM ?_; intro _ _) | (apply Ws <;> intro hg))
  refine WR.op (by first | exact gN | exact gS rfl) rfl (OpV.lenS rfl hSd) ?_
  rw [show (ints (d2'.take xs.length)).length = xs.length by simp; omega]
  (first | refine zA ?_ | (refine zM ?_; intro _ _) | (apply Ws <;> intro hg))
  (first | refine zA ?_ | (refine zM ?_; intro _ _) | (apply Ws <;> intro hg))
  rw [hne]
  repeat' (first | refine zA ?_ | (refine zM ?_; intro _ _) | (apply Ws <;> intro hg))
  have hget : ∀ (l : List Int) (x : Nat), x < xs.length → xs.length ≤ l.length → (ints (l.take xs.length))[x]? = some (.int .i64 (l.getD x 0)) := by
    intro l x hx hl
    have h1 : (ints (l.take xs.length))[x]? = some (.int .i64 ((l.take xs.length).getD x 0)) := ints_get (by simp; omega)
    rw [h1, List.getD_eq_getElem?_getD, List.getD_eq_getElem?_getD, List.getElem?_take_of_lt hx]
  repeat' (first | refine zA ?_ | (refine zM ?_; intro _ _) | (apply Ws <;> intro hg))
  refine WC.loop (fun s : Nat => [(5, .pointer (some ⟨n2, 0, some 0⟩)), (7, .int .i64 w), (8, .pointer (some ⟨n2 + 1 + 1, 0, some 0⟩)), (9, .func (.func 51) #[] #[.pointer (some ⟨n2, 0, some 0⟩)]), (12, va), (14, vb), (16, vc), (18, vd), (115, .int .i64 (xs.length : Int)), (116, .int .i64 (s : Int))]) (fun _ => [])
    (fun s H => s ≤ xs.length ∧ hasH T7 n7 H) (fun s => xs.length - s) 0 (by repeat' (first | exact .nil | refine .cons rfl ?_)) rfl ⟨Nat.zero_le _, hH7⟩ ?_
  clear hH7
  rintro k H8 ⟨hk, hH8⟩
  repeat' (first | refine zA ?_ | (refine zM ?_; intro _ _) | (apply Ws <;> intro hg))
  refine WC.condP rfl (fun hlt => ?_) (fun hlt => ?_)
  · have hk' : k < xs.length := by omega
    have hmk := hmt hk'
    obtain ⟨hk1, hk2⟩ := hkm hk'
    repeat' (first | refine zA ?_ | (refine zM ?_; intro _ _) | (apply Ws <;> intro hg))
    refine WC.regionD ?_
    (repeat' (first | refine d1 rfl ?_ | (refine zdf ?_; first | refine d2 rfl ?_ | refine d3 rfl ?_)))
    obtain ⟨q1, r1, s1, hop1, hc1⟩ := OpV.idxSl (C := C) (L := [(120, .int .i64 (k : Int)), (119, va)]) (H := H8) (x := .tmp 119) (ix := .tmp 120) rfl hSa rfl rfl (hget b1 k hk' (by omega))
    refine WD.op (by first | exact gN | exact gS rfl) rfl (v := .pointer (some ⟨q1, r1, some s1⟩)) (hop1.weaken (by repeat' (first | exact .nil | refine .cons rfl ?_))) rfl (stands_nil _ _) ?_
    refine WD.load1 (by first | exact gN | exact gS rfl) rfl rfl (hc1.read hH8) ?_
    (repeat' (first | refine d1 rfl ?_ | (refine zdf ?_; first | refine d2 rfl ?_ | refine d3 rfl ?_)))
    refine WD.callV (va := []) (vb := [.pointer (some ⟨n2, 0, some 0⟩)]) (by first | exact gN | exact gS rfl) rfl rfl rfl (to_fs hH8 hc (by omega) hmT) ?_
    rintro _ H9 ⟨rfl, rfl⟩
    refine ⟨stands_cons (.inr (holds_at (hc1.read hH8) (same_int _ _))) stands_nil', ?_⟩
    obtain ⟨q2, r2, s2, hop2, hc2⟩ := OpV.idxSl (C := C) (L := [(126, .int .i64 (mir c k : Int)), (123, vb)]) (H := H9) (x := .tmp 123) (ix := .tmp 126) rfl hSb rfl rfl (hget b2 (mir c k) hmk (by omega))
    refine WD.op (by first | exact gN | exact gS rfl) rfl (v := .pointer (some ⟨q2, r2, some s2⟩)) (hop2.weaken (by repeat' (first | exact .nil | refine .cons rfl ?_))) rfl (stands_nil _ _) ?_
    refine WD.load1 (by first | exact gN | exact gS rfl) rfl rfl (hc2.read hH8) ?_
    (repeat' (first | refine d1 rfl ?_ | (refine zdf ?_; first | refine d2 rfl ?_ | refine d3 rfl ?_)))
    rw [hk1, hne]
    (repeat' (first | refine d1 rfl ?_ | (refine zdf ?_; first | refine d2 rfl ?_ | refine d3 rfl ?_)))
    obtain ⟨q3, r3, s3, hop3, hc3⟩ := OpV.idxSl (C := C) (L := [(132, .int .i64 (k : Int)), (131, vc)]) (H := H9) (x := .tmp 131) (ix := .tmp 132) rfl hSc rfl rfl (hget d1' k hk' (by omega))
    refine WD.op (by first | exact gN | exact gS rfl) rfl (v := .pointer (some ⟨q3, r3, some s3⟩)) (hop3.weaken (by repeat' (first | exact .nil | refine .cons rfl ?_))) rfl (stands_nil _ _) ?_
    refine WD.load1 (by first | exact gN | exact gS rfl) rfl rfl (hc3.read hH8) ?_
    (repeat' (first | refine d1 rfl ?_ | (refine zdf ?_; first | refine d2 rfl ?_ | refine d3 rfl ?_)))
    refine WD.callV (va := []) (vb := [.pointer (some ⟨n2, 0, some 0⟩)]) (by first | exact gN | exact gS rfl) rfl rfl rfl (to_fs hH8 hc (by omega) hmT) ?_
    rintro _ H10 ⟨rfl, rfl⟩
    refine ⟨stands_cons (.inr (holds_at (hc3.read hH8) (same_int _ _))) (stands_cons (.inl rfl) (stands_cons (.inl rfl) stands_nil')), ?_⟩
    obtain ⟨q4, r4, s4, hop4, hc4⟩ := OpV.idxSl (C := C) (L := [(138, .int .i64 (mir c k : Int)), (135, vd)]) (H := H10) (x := .tmp 135) (ix := .tmp 138) rfl hSd rfl rfl (hget d2' (mir c k) hmk (by omega))
    refine WD.op (by first | exact gN | exact gS rfl) rfl (v := .pointer (some ⟨q4, r4, some s4⟩)) (hop4.weaken (by repeat' (first | exact .nil | refine .cons rfl ?_))) rfl (stands_nil _ _) ?_
    refine WD.load1 (by first | exact gN | exact gS rfl) rfl rfl (hc4.read hH8) ?_
    (repeat' (first | refine d1 rfl ?_ | (refine zdf ?_; first | refine d2 rfl ?_ | refine d3 rfl ?_)))
    rw [hk2, hne]
    refine WD.toWR rfl ?_
    refine WR.op (by first | exact gN | exact gS rfl) rfl (OpV.pickF rfl rfl) ?_
    repeat' (first | refine zA ?_ | (refine zM ?_; intro _ _) | (apply Ws <;> intro hg))
    exact Ends.loop (k + 1) (by omega) (by repeat' (first | exact .nil | refine .cons rfl ?_)) rfl ⟨hk', hH8⟩
  have hkn : k = xs.length := by omega
  subst hkn
  repeat' (first | refine zA ?_ | (refine zM ?_; intro _ _) | (apply Ws <;> intro hg))
  refine WR.call (by first | exact gN | exact gS rfl) rfl rfl (Pools_fs hH8 hSx (by omega) w) ?_
  rintro _ H9 ⟨n9, hn9, ⟨h0, _⟩ | ⟨_, v9, Mo, Mp, vs, K, b5, d5, rfl, hO9, hr9, hH9, hK, hl5, hd5⟩⟩
  · exact absurd hlev1 h0
  clear hH8
  rw [Int.toNat_natCast] at hl5 hr9
  have e5 := hl1.unique hh (Nat.le_refl _) hl5
  subst e5
  have hm9 : ∀ p ∈ T7, p ∈ Mo ++ (Mp ++ T7) := fun p hp => by simp [hp]
  have hSo9 := hSo.mono hm9
  have hS9 := hO9.sl (Mp ++ T7)
  replace hm2 := hm9 _ hm2
  generalize Mo ++ (Mp ++ T7) = T9 at hH9 hSo9 hS9 hm2
  repeat' (first | refine zA ?_ | (refine zM ?_; intro _ _) | (apply Ws <;> intro hg))
  refine WR.call (by first | exact gN | exact gS rfl) rfl rfl (Pools_fs hH9 hSo9 (by omega) w) ?_
  rintro _ H10 ⟨n10, hn10, ⟨h0, _⟩ | ⟨_, v10, Mo2, Mp2, us, K2, b6, d6, rfl, hO10, hr10, hH10, hK2, hl6, hd6⟩⟩
  · exact absurd hlev2 h0
  rw [Int.toNat_natCast, hzl] at hl6 hr10
  rw [hzl] at hd6 hK2
  have e6 := hl2.unique hh2 (Nat.le_refl _) hl6
  subst e6
  have hS9' : Sl (Mo2 ++ (Mp2 ++ T9)) 1 v9 vs := hS9.mono (fun p hp => by simp [hp])
  have hS10 := hO10.sl (Mp2 ++ T9)
  have hpl := pools_mir hc hh.cr hrc hr36 hh hh2 hmir hl1 hl2 hd5 hd6 hK hK2
  repeat' (first | refine zA ?_ | (refine zM ?_; intro _ _) | (apply Ws <;> intro hg))
  refine WR.op (by first | exact gN | exact gS rfl) rfl (OpV.lenS rfl hS9') ?_
  rw [hr9.1]
  repeat' (first | refine zA ?_ | (refine zM ?_; intro _ _) | (apply Ws <;> intro hg))
  refine WR.op (by first | exact gN | exact gS rfl) rfl (OpV.lenS rfl hS10) ?_
  rw [hr10.1, ← hpl]
  repeat' (first | refine zA ?_ | (refine zM ?_; intro _ _) | (apply Ws <;> intro hg))
  · refine WR.call (by first | exact gN | exact gS rfl) rfl rfl (FS.works (C := C) (R := fun v H' => v = .bool true) rfl) ?_
    rintro _ _ rfl
    repeat' (first | refine zA ?_ | (refine zM ?_; intro _ _) | (apply Ws <;> intro hg))
    exact Ends.ret1 rfl rfl
  · exact absurd rfl hg
end Go.Proofs.Ytmogipomnjihcaa.Eb
