/- Texts of the law, joined. -/
import Derived.Test.YtmogipomnjihcaaJ1
import Derived.Test.YtmogipomnjihcaaSymD
namespace Go.Proofs.Ytmogipomnjihcaa.Eb
open Go Go.Abs Go.Low
set_option linter.unusedVariables false
set_option linter.unusedSimpArgs false
attribute [local irreducible] gOK WS WC WR WD Ends FS YS OpV seqK blockK loopK midK retK rdK asgK rangeEnd sat Cell

theorem Sl.some_ {M : HL} {sz : Nat} {v : Value} {l : List Value} (h : Sl M sz v l) (hne : l ≠ []) : ∃ a len cap, v = .slice (some a) len cap := by
  cases h with
  | nil c => exact absurd rfl hne
  | emp a => exact absurd rfl hne
  | row => exact ⟨_, _, _, rfl⟩

theorem ints_ne {xs : List Int} (h : 1 ≤ xs.length) : ints xs ≠ [] := by
  intro e; have := congrArg List.length e; simp only [ints, List.length_map, List.length_nil] at this; omega

theorem Clone_fs {M : HL} {n : Nat} {H : Heap} (hH : hasH M n H) {v : Value} {xs : List Int} (hS : Sl M 1 v (ints xs)) (hx : xs.length ≤ 1000) (hx1 : 1 ≤ xs.length) :
    FS C 46 [v] H (fun e H' => ∃ b n', e = .slice (some ⟨b, 0, some 0⟩) xs.length (2 * 1) ∧ n ≤ n' ∧ hasH ((b, .row 3 0 0 (ints xs)) :: M) n' H') := by
  have hne := ints_ne hx1
  obtain ⟨a, len, cap, rfl⟩ := Sl.some_ hS hne
  refine FS.intro (pf := pf46) rfl rfl rfl ?_
  repeat' (first | refine zA ?_ | (refine zM ?_; intro _ _) | (apply Ws <;> intro hg))
  refine WR.bldS (by first | exact gN | exact gS rfl) rfl hH (vs := []) rfl (cs := []) (by rfl) rfl fun H3 hH3 => ?_
  repeat' (first | refine zA ?_ | (refine zM ?_; intro _ _) | (apply Ws <;> intro hg))
  obtain ⟨hk, hsr⟩ := (hS.cons (p := (n, .row 3 0 0 []))).src hH3 hne
  rw [show (ints xs).length = xs.length by simp] at hk
  refine WR.appendNew (by first | exact gN | exact gS rfl) rfl rfl rfl hH3 (.head _) (.row _ _ _ _) (Nat.zero_le _) (Nat.zero_le _) hk (by have := hsr _ (Nat.le_refl _); rw [List.take_length, show (ints xs).length = xs.length by simp] at this; exact this) (by simp) hx1 (ints_one _) (by omega) (by omega) (by omega) fun H' hH' => ?_
  repeat' (first | refine zA ?_ | (refine zM ?_; intro _ _) | (apply Ws <;> intro hg))
  exact Ends.ret1 rfl ⟨n + 1, n + 2, rfl, by omega, hH'.sub (.cons_cons _ (List.sublist_cons_self _ _))⟩

theorem own_row {b : Nat} {xs : List Int} : Own 3 1 (.slice (some ⟨b, 0, some 0⟩) xs.length (2 * 1)) (ints xs) [(b, .row 3 0 0 (ints xs))] := .row (by simp)

theorem take_ints (xs : List Int) (k : Nat) : (ints xs).take k = ints (xs.take k) := by simp [ints, List.map_take]

theorem list_fs {M : HL} {n : Nat} {H : Heap} (hH : hasH M n H) {bg bn e c r : Nat} {hs ns : List Int} (hm : (bg, .row 99 0 0 (gcells c r hs)) ∈ M) (hn : (bn, .row e 0 0 (ints ns)) ∈ M) (hl : ns.length = 37) (hr : r ≤ 36) (hr1 : 1 ≤ r) :
    FS C 57 [.pointer (some ⟨bg, 0, some 0⟩), .pointer (some ⟨bn, 0, some 0⟩)] H (fun e H' => ∃ Mx n', n ≤ n' ∧ Own 3 1 e (ints (ns.take r)) Mx ∧ hasH (Mx ++ M) n' H') := by
  refine FS.intro (pf := pf57) rfl rfl rfl ?_
  repeat' (first | refine zA ?_ | (refine zM ?_; intro _ _) | (apply Ws <;> intro hg))
  refine WR.op (by first | exact gN | exact gS rfl) rfl (OpV.slAh rfl rfl (show r ≤ 37 by omega) (by decide)) ?_
  have hSl : Sl M 1 (.slice (some ⟨bn, 0, some 0⟩) r (2 * 37 + 1)) (ints (ns.take r)) :=
    .row (lo := 0) (cs := ints ns) hn (.row _ _ _ _) (Nat.zero_le _) (by simp; omega) (by simp [ints, List.map_take]) (by simp; omega) (.inr ⟨37, rfl, by omega⟩)
  refine WR.call (by first | exact gN | exact gS rfl) rfl rfl (Clone_fs hH hSl (by simp; omega) (by simp; omega)) ?_
  rintro _ H2 ⟨b2, n2, rfl, hn2, hH2⟩
  repeat' (first | refine zA ?_ | (refine zM ?_; intro _ _) | (apply Ws <;> intro hg))
  exact Ends.ret1 rfl ⟨_, n2, hn2, own_row, hH2⟩

theorem Sills_fs {M : HL} {n : Nat} {H : Heap} (hH : hasH M n H) {r c : Int} {v : Value} {xs : List Int} (hS : Sl M 1 v (ints xs)) (hx : xs.length ≤ 1000) :
    FS C 17 [.agg #[.int .i64 r, .int .i64 c, v]] H (fun e H' => ∃ n', n ≤ n' ∧ (checkE r c xs ≠ 0 ∧ e = .tuple #[.slice none 0 0, .int .i64 (checkE r c xs)] ∧ hasH M n' H' ∨
      checkE r c xs = 0 ∧ ∃ v' Mx best, e = .tuple #[v', .int .i64 0] ∧ Own 3 1 v' (ints (best.take xs.length)) Mx ∧ hasH (Mx ++ M) n' H' ∧ Lowest c.toNat xs.length (padded xs) xs.length best)) := by
  have h1 := hS.one_
  refine FS.intro (pf := pf17) rfl rfl rfl ?_
  repeat' (first | refine zA ?_ | (refine zM ?_; intro _ _) | (apply Ws <;> intro hg))
  refine WR.call (by first | exact gN | exact gS rfl) rfl rfl (lay_fs (by assumption) hS.cons hx) ?_
  rintro _ H2 ⟨n2, hn2, ⟨hne, rfl, hH2⟩ | ⟨hck, bg, rfl, hH2⟩⟩
  · repeat' (first | refine zA ?_ | (refine zM ?_; intro _ _) | (apply Ws <;> intro hg))
    refine WC.condP rfl (fun h => ?_) (fun h => ?_)
    · repeat' (first | refine zA ?_ | (refine zM ?_; intro _ _) | (apply Ws <;> intro hg))
      exact Ends.ret2 rfl rfl ⟨n2, by omega, .inl ⟨hne, rfl, hH2.tail⟩⟩
    · exact absurd hne h
  · obtain ⟨hh, hc6, hr36⟩ := HS_of hck
    have hr1 := Nat.le_trans hh.c1 hh.cr
    repeat' (first | refine zA ?_ | (refine zM ?_; intro _ _) | (apply Ws <;> intro hg))
    refine WR.call (by first | exact gN | exact gS rfl) rfl rfl (sills_fs hH2 (by first | assumption | exact .head _ | exact .tail _ (.head _) | exact .tail _ (.tail _ (.head _)) | exact .tail _ (.tail _ (.tail _ (.head _))) | exact .tail _ (.tail _ (.tail _ (.tail _ (.head _)))) | exact .tail _ (.tail _ (.tail _ (.tail _ (.tail _ (.head _))))) | exact .tail _ (.tail _ (.tail _ (.tail _ (.tail _ (.tail _ (.head _)))))) | (repeat' (first | assumption | apply List.mem_cons_of_mem))) hh hc6) ?_
    rintro _ H3 ⟨best, n3, rfl, hn3, hH3, hl⟩
    repeat' (first | refine zA ?_ | (refine zM ?_; intro _ _) | (apply Ws <;> intro hg))
    rename_i hq
    refine WR.storeAll (by first | exact gN | exact gS rfl) hq rfl rfl (ls := ints best) (by simp [Value.cells]) (by simpa using hl.len) (by first | exact .here | exact .there .here | exact .there (.there .here) | exact .there (.there (.there .here)) | exact .there (.there (.there (.there .here))) | exact .there (.there (.there (.there (.there .here))))) (ints_one _) (by simpa using hl.len) fun H5 hH5 => ?_
    clear hq
    repeat' (first | refine zA ?_ | (refine zM ?_; intro _ _) | (apply Ws <;> intro hg))
    refine WR.call (by first | exact gN | exact gS rfl) rfl rfl (list_fs hH5 (by first | assumption | exact .head _ | exact .tail _ (.head _) | exact .tail _ (.tail _ (.head _)) | exact .tail _ (.tail _ (.tail _ (.head _))) | exact .tail _ (.tail _ (.tail _ (.tail _ (.head _)))) | exact .tail _ (.tail _ (.tail _ (.tail _ (.tail _ (.head _))))) | exact .tail _ (.tail _ (.tail _ (.tail _ (.tail _ (.tail _ (.head _)))))) | (repeat' (first | assumption | apply List.mem_cons_of_mem))) (.head _) hl.len hr36 hr1) ?_
    rintro v2 H6 ⟨Mx, n6, hn6, hO, hH6⟩
    repeat' (first | refine zA ?_ | (refine zM ?_; intro _ _) | (apply Ws <;> intro hg))
    refine Ends.ret2 rfl rfl ⟨n6, by omega, .inr ⟨hck, v2, Mx, best, rfl, hO, hH6.sub (.append (.refl _) (.cons _ (.cons _ (.cons _ (.refl _))))), hl⟩⟩

theorem Depths_fs {M : HL} {n : Nat} {H : Heap} (hH : hasH M n H) {r c : Int} {v : Value} {xs : List Int} (hS : Sl M 1 v (ints xs)) (hx : xs.length ≤ 1000) (w : Int) :
    FS C 19 [.agg #[.int .i64 r, .int .i64 c, v], .int .i64 w] H (fun e H' => ∃ n', n ≤ n' ∧ (levelE r c xs w ≠ 0 ∧ e = .tuple #[.slice none 0 0, .int .i64 (levelE r c xs w)] ∧ hasH M n' H' ∨
      levelE r c xs w = 0 ∧ ∃ v' Mx best ds, e = .tuple #[v', .int .i64 0] ∧ Own 3 1 v' (ints (ds.take xs.length)) Mx ∧ hasH (Mx ++ M) n' H' ∧ Lowest c.toNat xs.length (padded xs) xs.length best ∧ Depths xs.length (padded xs) best w ds)) := by
  have h1 := hS.one_
  refine FS.intro (pf := pf19) rfl rfl rfl ?_
  repeat' (first | refine zA ?_ | (refine zM ?_; intro _ _) | (apply Ws <;> intro hg))
  refine WR.call (by first | exact gN | exact gS rfl) rfl rfl (layAt_fs (by assumption) hS.cons hx w) ?_
  rintro _ H2 ⟨n2, hn2, ⟨hne, rfl, hH2⟩ | ⟨he0, bg, rfl, hH2⟩⟩
  · repeat' (first | refine zA ?_ | (refine zM ?_; intro _ _) | (apply Ws <;> intro hg))
    refine WC.condP rfl (fun h => ?_) (fun h => ?_)
    · repeat' (first | refine zA ?_ | (refine zM ?_; intro _ _) | (apply Ws <;> intro hg))
      exact Ends.ret2 rfl rfl ⟨n2, by omega, .inl ⟨hne, rfl, hH2.tail⟩⟩
    · exact absurd hne h
  · obtain ⟨hck, hw⟩ := level_ok he0
    obtain ⟨hh, hc6, hr36⟩ := HS_of hck
    have hr1 := Nat.le_trans hh.c1 hh.cr
    repeat' (first | refine zA ?_ | (refine zM ?_; intro _ _) | (apply Ws <;> intro hg))
    refine WR.call (by first | exact gN | exact gS rfl) rfl rfl (depths_fs hH2 (by first | assumption | exact .head _ | exact .tail _ (.head _) | exact .tail _ (.tail _ (.head _)) | exact .tail _ (.tail _ (.tail _ (.head _))) | exact .tail _ (.tail _ (.tail _ (.tail _ (.head _)))) | exact .tail _ (.tail _ (.tail _ (.tail _ (.tail _ (.head _))))) | exact .tail _ (.tail _ (.tail _ (.tail _ (.tail _ (.tail _ (.head _)))))) | (repeat' (first | assumption | apply List.mem_cons_of_mem))) hh hc6 hw) ?_
    rintro _ H3 ⟨best, ds, n3, rfl, hn3, hH3, hl, hd⟩
    repeat' (first | refine zA ?_ | (refine zM ?_; intro _ _) | (apply Ws <;> intro hg))
    rename_i hq
    refine WR.storeAll (by first | exact gN | exact gS rfl) hq rfl rfl (ls := ints ds) (by simp [Value.cells]) (by simpa using hd.len) (by first | exact .here | exact .there .here | exact .there (.there .here) | exact .there (.there (.there .here)) | exact .there (.there (.there (.there .here))) | exact .there (.there (.there (.there (.there .here))))) (ints_one _) (by simpa using hd.len) fun H5 hH5 => ?_
    clear hq
    repeat' (first | refine zA ?_ | (refine zM ?_; intro _ _) | (apply Ws <;> intro hg))
    refine WR.call (by first | exact gN | exact gS rfl) rfl rfl (list_fs hH5 (by first | assumption | exact .head _ | exact .tail _ (.head _) | exact .tail _ (.tail _ (.head _)) | exact .tail _ (.tail _ (.tail _ (.head _))) | exact .tail _ (.tail _ (.tail _ (.tail _ (.head _)))) | exact .tail _ (.tail _ (.tail _ (.tail _ (.tail _ (.head _))))) | exact .tail _ (.tail _ (.tail _ (.tail _ (.tail _ (.tail _ (.head _)))))) | (repeat' (first | assumption | apply List.mem_cons_of_mem))) (.head _) hd.len hr36 hr1) ?_
    rintro v2 H6 ⟨Mx, n6, hn6, hO, hH6⟩
    repeat' (first | refine zA ?_ | (refine zM ?_; intro _ _) | (apply Ws <;> intro hg))
    refine Ends.ret2 rfl rfl ⟨n6, by omega, .inr ⟨he0, v2, Mx, best, ds, rfl, hO, hH6.sub (.append (.refl _) (.cons _ (.cons _ (.cons _ (.refl _))))), hl, hd⟩⟩

end Go.Proofs.Ytmogipomnjihcaa.Eb

namespace Go.Proofs.Ytmogipomnjihcaa.Eb
open Go Go.Abs Go.Low
set_option linter.unusedVariables false
set_option linter.unusedSimpArgs false
attribute [local irreducible] gOK WS WC WR WD Ends FS YS OpV seqK blockK loopK midK retK rdK asgK rangeEnd sat Cell

theorem cases6 {c : Nat} (h : 1 ≤ c ∧ c ≤ 6) : c = 1 ∨ c = 2 ∨ c = 3 ∨ c = 4 ∨ c = 5 ∨ c = 6 := by omega

theorem mem_ite {p : Prop} [Decidable p] {x a : Nat} : (x ∈ if p then [a] else []) ↔ (p ∧ x = a) := by
  split <;> rename_i h <;> simp [h]

theorem nbrs_iff {c r a b : Nat} (hc : 1 ≤ c ∧ c ≤ 6) (ha : a < r) (hb : b < r) : b ∈ nbrs c r a ↔ (a / c = b / c ∧ (a + 1 = b ∨ b + 1 = a)) ∨ (a / c ≠ b / c ∧ (a + c = b ∨ b + c = a)) := by
  unfold nbrs
  rw [if_neg (by omega)]
  simp only [List.mem_append, List.mem_singleton]
  rw [mem_ite, mem_ite, mem_ite]
  rcases cases6 hc with rfl | rfl | rfl | rfl | rfl | rfl <;> omega

theorem nbrs_out {c r a : Nat} (ha : a < r) : r ∈ nbrs c r a ↔ r ≤ a + c := by
  unfold nbrs
  rw [if_neg (by omega)]
  simp only [List.mem_append, List.mem_singleton]
  rw [mem_ite, mem_ite, mem_ite]
  by_cases h : c = 0
  · subst h; simp; omega
  have := Nat.mod_lt a (show 0 < c by omega)
  omega

theorem nbrs_in {c r a : Nat} (hcr : c ≤ r) (ha : a < r) : a ∈ nbrs c r r ↔ r ≤ a + c := by
  unfold nbrs
  rw [if_pos rfl, List.mem_range'_1]
  omega

theorem nbrs_symm {c r a b : Nat} (hc : 1 ≤ c ∧ c ≤ 6) (hcr : c ≤ r) (ha : a ≤ r) (h : b ∈ nbrs c r a) : a ∈ nbrs c r b := by
  have hb := nbrs_le hc.1 hcr ha h
  have hne : b ≠ a := fun e => nbrs_ne hc.1 hcr (e ▸ h)
  rcases Nat.lt_or_ge a r with ha' | ha'
  · rcases Nat.lt_or_ge b r with hb' | hb'
    · rw [nbrs_iff hc ha' hb'] at h
      rw [nbrs_iff hc hb' ha']
      omega
    · have : b = r := by omega
      subst this
      rw [nbrs_out ha'] at h
      exact (nbrs_in hcr ha').2 h
  · have : a = r := by omega
    subst this
    have hb' : b < a := by omega
    rw [nbrs_in hcr hb'] at h
    exact (nbrs_out hb').2 h

/-- Places that hold back water. -/
def Bars (c r : Nat) (hs : List Int) (ps : List Nat) (h : Int) : Prop := ∀ p ∈ ps, ∀ y ∈ nbrs c r p, y ≠ r ∧ (hs.getD y 0 < h → y ∈ ps)

instance (c r : Nat) (hs : List Int) (ps : List Nat) (h : Int) : Decidable (Bars c r hs ps h) := by unfold Bars; infer_instance

theorem reach_top {c r src : Nat} {hs : List Int} {t : Int} {y : Nat} (h : Go.Low.Reach c r hs src t y) : hs.getD y 0 ≤ t := by
  cases h <;> assumption

theorem bars_hold {c r : Nat} {hs b : List Int} {ps : List Nat} {h : Int} (hh : HS c r hs) (hc6 : c ≤ 6) (hl : Lowest c r hs r b) (hps : ∀ p ∈ ps, p < r) (hb : Bars c r hs ps h) (h30 : h ≤ 30) : ∀ p ∈ ps, h ≤ b.getD p 0 := by
  intro p hp
  rcases Int.lt_or_le (b.getD p 0) h with hlt | hge
  · exfalso
    have hr := (hl.out.done hh (Nat.le_refl _) (show h - 1 ≤ 30 by omega) (Nat.le_of_lt (hps p hp))).1 (by omega)
    have key : ∀ y, Go.Low.Reach c r hs r (h - 1) y → y ∉ ps := by
      intro y hy
      induction hy with
      | start _ => exact fun hm => absurd (hps _ hm) (Nat.lt_irrefl _)
      | step hx hy ht ih =>
        rename_i x y
        intro hm
        have hxr := hx.le hh (Nat.le_refl _)
        have hsy := nbrs_symm ⟨hh.c1, hc6⟩ hh.cr hxr hy
        obtain ⟨q1, q2⟩ := hb y hm x hsy
        exact ih (q2 (by have := reach_top hx; omega))
    exact key p hr hp
  · exact hge

end Go.Proofs.Ytmogipomnjihcaa.Eb

namespace Go.Proofs.Ytmogipomnjihcaa.Eb
open Go Go.Abs Go.Low
set_option linter.unusedVariables false
set_option linter.unusedSimpArgs false
attribute [local irreducible] gOK WS WC WR WD Ends FS YS OpV seqK blockK loopK midK retK rdK asgK rangeEnd sat Cell

theorem beside_fs {M : HL} {n : Nat} {H : Heap} (hH : hasH M n H) {rw : Int} {c : Nat} {v : Value} {xs : List Int} (hS : Sl M 1 v (ints xs)) (hc : 1 ≤ c ∧ c ≤ 6) (hcr : c ≤ xs.length) (hx : xs.length ≤ 36) {a b : Nat} (ha : a < xs.length) (hb : b ≤ xs.length) :
    FS C 45 [.agg #[.int .i64 rw, .int .i64 (c : Int), v], .int .i64 (a : Int), .int .i64 (b : Int)] H (fun e H' => e = .bool (decide (b ∈ nbrs c xs.length a)) ∧ ∃ n', n ≤ n' ∧ hasH M n' H') := by
  have h1 := hS.one_
  refine FS.intro (pf := pf45) rfl rfl rfl ?_
  repeat' (first | refine zA ?_ | (refine zM ?_; intro _ _) | (apply Ws <;> intro hg))
  rename_i H1 hH1
  refine WR.op (by first | exact gN | exact gS rfl) rfl (OpV.lenSI rfl hS) ?_
  repeat' (first | refine zA ?_ | (refine zM ?_; intro _ _) | (apply Ws <;> intro hg))
  refine WR.op (by first | exact gN | exact gS rfl) rfl (OpV.max' (c := ((max a b : Nat) : Int)) rfl rfl (by omega)) ?_
  repeat' (first | refine zA ?_ | (refine zM ?_; intro _ _) | (apply Ws <;> intro hg))
  refine WC.condP rfl (fun hm => ?_) (fun hm => ?_)
  · have hbr : b = xs.length := by omega
    subst hbr
    repeat' (first | refine zA ?_ | (refine zM ?_; intro _ _) | (apply Ws <;> intro hg))
    · refine WR.op (by first | exact gN | exact gS rfl) rfl (OpV.min' (c := ((a : Nat) : Int)) rfl rfl (by omega)) ?_
      repeat' (first | refine zA ?_ | (refine zM ?_; intro _ _) | (apply Ws <;> intro hg))
      refine WR.op (by first | exact gN | exact gS rfl) rfl (OpV.sub rfl rfl (by omega)) ?_
      repeat' (first | refine zA ?_ | (refine zM ?_; intro _ _) | (apply Ws <;> intro hg))
      refine Ends.ret1 rfl ⟨?_, n + 1, by omega, hH1.tail⟩
      congr 1
      exact decide_eq_decide.2 (by rw [nbrs_out ha]; omega)
    · omega
  · have hbr : b < xs.length := by omega
    repeat' (first | refine zA ?_ | (refine zM ?_; intro _ _) | (apply Ws <;> intro hg))
    refine WR.op (by first | exact gN | exact gS rfl) rfl (OpV.quo' (c := ((a / c : Nat) : Int)) rfl rfl (by omega) (by omega) (by omega)) ?_
    repeat' (first | refine zA ?_ | (refine zM ?_; intro _ _) | (apply Ws <;> intro hg))
    refine WR.op (by first | exact gN | exact gS rfl) rfl (OpV.quo' (c := ((b / c : Nat) : Int)) rfl rfl (by omega) (by omega) (by omega)) ?_
    repeat' (first | refine zA ?_ | (refine zM ?_; intro _ _) | (apply Ws <;> intro hg))
    refine WC.condP rfl (fun hq => ?_) (fun hq => ?_)
    · have hq' : a / c = b / c := by omega
      repeat' (first | refine zA ?_ | (refine zM ?_; intro _ _) | (apply Ws <;> intro hg))
      refine WR.op (by first | exact gN | exact gS rfl) rfl (OpV.sub rfl rfl (by omega)) ?_
      repeat' (first | refine zA ?_ | (refine zM ?_; intro _ _) | (apply Ws <;> intro hg))
      refine WR.op (by first | exact gN | exact gS rfl) rfl (OpV.sub rfl rfl (by omega)) ?_
      refine WR.op (by first | exact gN | exact gS rfl) rfl (OpV.max' rfl rfl rfl) ?_
      repeat' (first | refine zA ?_ | (refine zM ?_; intro _ _) | (apply Ws <;> intro hg))
      refine Ends.ret1 rfl ⟨?_, n + 1, by omega, hH1.tail⟩
      congr 1
      exact decide_eq_decide.2 (by rw [nbrs_iff hc ha hbr]; omega)
    · have hq' : a / c ≠ b / c := by omega
      repeat' (first | refine zA ?_ | (refine zM ?_; intro _ _) | (apply Ws <;> intro hg))
      refine WR.op (by first | exact gN | exact gS rfl) rfl (OpV.sub rfl rfl (by omega)) ?_
      repeat' (first | refine zA ?_ | (refine zM ?_; intro _ _) | (apply Ws <;> intro hg))
      refine WR.op (by first | exact gN | exact gS rfl) rfl (OpV.sub rfl rfl (by omega)) ?_
      refine WR.op (by first | exact gN | exact gS rfl) rfl (OpV.max' rfl rfl rfl) ?_
      repeat' (first | refine zA ?_ | (refine zM ?_; intro _ _) | (apply Ws <;> intro hg))
      refine Ends.ret1 rfl ⟨?_, n + 1, by omega, hH1.tail⟩
      congr 1
      exact decide_eq_decide.2 (by rw [nbrs_iff hc ha hbr]; omega)

end Go.Proofs.Ytmogipomnjihcaa.Eb

namespace Go.Proofs.Ytmogipomnjihcaa.Eb
open Go Go.Abs Go.Low
set_option linter.unusedVariables false
set_option linter.unusedSimpArgs false
attribute [local irreducible] gOK WS WC WR WD Ends FS YS OpV seqK blockK loopK midK retK rdK asgK rangeEnd sat Cell

theorem in_fs (a l h : Int) (H : Heap) : FS C 65 [.int .i64 a, .int .i64 l, .int .i64 h] H (fun v H' => v = .bool (decide (l ≤ a ∧ a ≤ h)) ∧ H' = H) := by
  refine FS.intro (pf := pf65) rfl rfl rfl ?_
  repeat' (first | refine zA ?_ | (refine zM ?_; intro _ _) | (apply Ws <;> intro hg))
  all_goals refine Ends.ret1 rfl ⟨?_, rfl⟩
  all_goals simp [hg]

theorem has_fs {M : HL} {n : Nat} {H : Heap} (hH : hasH M n H) {v : Value} {xs : List Int} (hS : Sl M 1 v (ints xs)) (hx : xs.length ≤ 100000) (a : Int) :
    FS C 68 [v, .int .i64 a] H (fun e H' => H' = H ∧ e = .bool (decide (a ∈ xs))) := by
  refine FS.intro (pf := pf68) rfl rfl rfl ?_
  repeat' (first | refine zA ?_ | (refine zM ?_; intro _ _) | (apply Ws <;> intro hg))
  refine WC.loop (fun k : Nat => [(0, v), (1, .int .i64 a), (5, .int .i64 (k : Int))]) (fun _ => []) (fun k H' => H' = H ∧ k ≤ xs.length ∧ ∀ j (h : j < xs.length), j < k → xs[j] ≠ a) (fun k => xs.length - k) 0 (by repeat' (first | exact .nil | refine .cons rfl ?_)) rfl ⟨rfl, Nat.zero_le _, fun j _ h => absurd h (Nat.not_lt_zero _)⟩ ?_
  rintro k H' ⟨rfl, hk, hno⟩
  repeat' (first | refine zA ?_ | (refine zM ?_; intro _ _) | (apply Ws <;> intro hg))
  refine WR.op (by first | exact gN | exact gS rfl) rfl (OpV.lenSI rfl hS) ?_
  repeat' (first | refine zA ?_ | (refine zM ?_; intro _ _) | (apply Ws <;> intro hg))
  refine WC.condP rfl (fun hlt => ?_) (fun hlt => ?_)
  · have hk' : k < xs.length := by omega
    repeat' (first | refine zA ?_ | (refine zM ?_; intro _ _) | (apply Ws <;> intro hg))
    refine WR.idxSI (by first | exact gN | exact gS rfl) rfl rfl hS rfl rfl hk' fun b o u hc => ?_
    repeat' (first | refine zA ?_ | (refine zM ?_; intro _ _) | (apply Ws <;> intro hg))
    refine WC.condP rfl (fun h => ?_) (fun h => ?_)
    · repeat' (first | refine zA ?_ | (refine zM ?_; intro _ _) | (apply Ws <;> intro hg))
      refine Ends.ret1 rfl ⟨rfl, ?_⟩
      rw [decide_eq_true (h ▸ List.getElem_mem hk')]
    · repeat' (first | refine zA ?_ | (refine zM ?_; intro _ _) | (apply Ws <;> intro hg))
      refine Ends.loop (k + 1) (by omega) (by repeat' (first | exact .nil | refine .cons rfl ?_)) rfl ⟨rfl, hk', fun j hj hjk => ?_⟩
      rcases Nat.lt_or_ge j k with h2 | h2
      · exact hno j hj h2
      · have : j = k := by omega
        subst this; exact h
  · repeat' (first | refine zA ?_ | (refine zM ?_; intro _ _) | (apply Ws <;> intro hg))
    refine Ends.ret1 rfl ⟨rfl, ?_⟩
    rw [decide_eq_false]
    intro hm
    obtain ⟨j, hj, he⟩ := List.mem_iff_getElem.1 hm
    exact hno j hj (by omega) he

theorem CheckR_fs {M : HL} {n : Nat} {H : Heap} (hH : hasH M n H) {r c : Int} {v : Value} {xs : List Int} (hS : Sl M 1 v (ints xs)) (hx : xs.length ≤ 1000) :
    FS C 23 [.agg #[.int .i64 r, .int .i64 c, v]] H (fun e H' => e = .int .i64 (checkE r c xs) ∧ ∃ n', n ≤ n' ∧ hasH M n' H') := by
  have h1 := hS.one_
  refine FS.intro (pf := pf23) rfl rfl rfl ?_
  repeat' (first | refine zA ?_ | (refine zM ?_; intro _ _) | (apply Ws <;> intro hg))
  rename_i H1 hH1
  refine WR.call (by first | exact gN | exact gS rfl) rfl rfl (in_fs _ _ _ _) ?_
  rintro _ _ ⟨rfl, rfl⟩
  repeat' (first | refine zA ?_ | (refine zM ?_; intro _ _) | (apply Ws <;> intro hg))
  · refine Ends.ret1 rfl ⟨?_, n + 1, by omega, hH1.tail⟩
    simp [checkE, hg]
  refine WR.call (by first | exact gN | exact gS rfl) rfl rfl (in_fs _ _ _ _) ?_
  rintro _ _ ⟨rfl, rfl⟩
  repeat' (first | refine zA ?_ | (refine zM ?_; intro _ _) | (apply Ws <;> intro hg))
  refine WC.condP rfl (fun hc => ?_) (fun hc => ?_)
  · repeat' (first | refine zA ?_ | (refine zM ?_; intro _ _) | (apply Ws <;> intro hg))
    refine Ends.ret1 rfl ⟨?_, n + 1, by omega, hH1.tail⟩
    simp [checkE, hc]
  repeat' (first | refine zA ?_ | (refine zM ?_; intro _ _) | (apply Ws <;> intro hg))
  have hr' := Decidable.not_not.1 hg
  have hc' := Decidable.not_not.1 hc
  have hp := prod_le hr' hc'
  refine WR.op (by first | exact gN | exact gS rfl) rfl (OpV.lenSI rfl hS) ?_
  repeat' (first | refine zA ?_ | (refine zM ?_; intro _ _) | (apply Ws <;> intro hg))
  refine WR.op (by first | exact gN | exact gS rfl) rfl (OpV.mul rfl rfl (by omega)) ?_
  repeat' (first | refine zA ?_ | (refine zM ?_; intro _ _) | (apply Ws <;> intro hg))
  refine WC.condP rfl (fun hl => ?_) (fun hl => ?_)
  · repeat' (first | refine zA ?_ | (refine zM ?_; intro _ _) | (apply Ws <;> intro hg))
    refine Ends.ret1 rfl ⟨?_, n + 1, by omega, hH1.tail⟩
    simp [checkE, hr', hc', hl]
  have hl' : (xs.length : Int) = r * c := by omega
  have hbase : checkE r c xs = if ∀ x ∈ xs, 0 ≤ x ∧ x ≤ 30 then 0 else 1 := by
    simp only [checkE, hr', hc', hl', not_true_eq_false, or_self, if_false, ne_eq]
    rw [if_neg (by simp)]
  repeat' (first | refine zA ?_ | (refine zM ?_; intro _ _) | (apply Ws <;> intro hg))
  refine WC.loop (fun k : Nat => [(1, .pointer (some ⟨n, 0, some 0⟩)), (3, .int .i64 (k : Int))]) (fun _ => []) (fun k H' => hasH ((n, .row 27 0 0 [.int .i64 r, .int .i64 c, v]) :: M) (n + 1) H' ∧ k ≤ xs.length ∧ ∀ j (h : j < xs.length), j < k → 0 ≤ xs[j] ∧ xs[j] ≤ 30) (fun k => xs.length - k) 0 (by repeat' (first | exact .nil | refine .cons rfl ?_)) rfl ⟨hH1, Nat.zero_le _, fun j _ h => absurd h (Nat.not_lt_zero _)⟩ ?_
  clear hH1
  rintro k H' ⟨hH1, hk, hgood⟩
  repeat' (first | refine zA ?_ | (refine zM ?_; intro _ _) | (apply Ws <;> intro hg))
  refine WR.op (by first | exact gN | exact gS rfl) rfl (OpV.lenSI rfl hS) ?_
  repeat' (first | refine zA ?_ | (refine zM ?_; intro _ _) | (apply Ws <;> intro hg))
  refine WC.condP rfl (fun hlt => ?_) (fun hlt => ?_)
  · have hk' : k < xs.length := by omega
    repeat' (first | refine zA ?_ | (refine zM ?_; intro _ _) | (apply Ws <;> intro hg))
    refine WR.idxSI (by first | exact gN | exact gS rfl) rfl rfl (hS.cons (p := (n, .row 27 0 0 [.int .i64 r, .int .i64 c, v]))) rfl rfl hk' fun b o u hc => ?_
    repeat' (first | refine zA ?_ | (refine zM ?_; intro _ _) | (apply Ws <;> intro hg))
    refine WR.call (by first | exact gN | exact gS rfl) rfl rfl (in_fs _ _ _ _) ?_
    rintro _ _ ⟨rfl, rfl⟩
    repeat' (first | refine zA ?_ | (refine zM ?_; intro _ _) | (apply Ws <;> intro hg))
    refine WC.condP rfl (fun h => ?_) (fun h => ?_)
    · repeat' (first | refine zA ?_ | (refine zM ?_; intro _ _) | (apply Ws <;> intro hg))
      refine Ends.ret1 rfl ⟨?_, n + 1, by omega, hH1.tail⟩
      rw [hbase, if_neg (fun hall => h (hall _ (List.getElem_mem hk')))]
    · repeat' (first | refine zA ?_ | (refine zM ?_; intro _ _) | (apply Ws <;> intro hg))
      refine Ends.loop (k + 1) (by omega) (by repeat' (first | exact .nil | refine .cons rfl ?_)) rfl ⟨hH1, hk', fun j hj hjk => ?_⟩
      rcases Nat.lt_or_ge j k with h2 | h2
      · exact hgood j hj h2
      · have : j = k := by omega
        subst this; exact Decidable.not_not.1 h
  · repeat' (first | refine zA ?_ | (refine zM ?_; intro _ _) | (apply Ws <;> intro hg))
    refine Ends.ret1 rfl ⟨?_, n + 1, by omega, hH1.tail⟩
    rw [hbase, if_pos]
    intro x hxm
    obtain ⟨j, hj, rfl⟩ := List.mem_iff_getElem.1 hxm
    exact hgood j hj (by omega)

theorem place_fs {M : HL} {n : Nat} {H : Heap} (hH : hasH M n H) {r c : Int} {v : Value} {xs : List Int} (hS : Sl M 1 v (ints xs)) (hx : xs.length ≤ 1000) (p : Int) :
    FS C 71 [.agg #[.int .i64 r, .int .i64 c, v], .int .i64 p] H (fun e H' => e = .bool (decide (0 ≤ p ∧ p ≤ (xs.length : Int) - 1)) ∧ ∃ n', n ≤ n' ∧ hasH M n' H') := by
  have h1 := hS.one_
  refine FS.intro (pf := pf71) rfl rfl rfl ?_
  repeat' (first | refine zA ?_ | (refine zM ?_; intro _ _) | (apply Ws <;> intro hg))
  rename_i H1 hH1
  refine WR.op (by first | exact gN | exact gS rfl) rfl (OpV.lenSI rfl hS) ?_
  refine WR.op (by first | exact gN | exact gS rfl) rfl (OpV.sub rfl rfl (by omega)) ?_
  refine WR.call (by first | exact gN | exact gS rfl) rfl rfl (in_fs _ _ _ _) ?_
  rintro _ _ ⟨rfl, rfl⟩
  repeat' (first | refine zA ?_ | (refine zM ?_; intro _ _) | (apply Ws <;> intro hg))
  exact Ends.ret1 rfl ⟨rfl, n + 1, by omega, hH1.tail⟩

theorem besideR_fs {M : HL} {n : Nat} {H : Heap} (hH : hasH M n H) {rw : Int} {c r : Nat} {v : Value} (h1 : one v = true) (hc : 1 ≤ c ∧ c ≤ 6) (hcr : c ≤ r) (hx : r ≤ 36) {a b : Nat} (ha : a < r) (hb : b < r) :
    FS C 69 [.agg #[.int .i64 rw, .int .i64 (c : Int), v], .int .i64 (a : Int), .int .i64 (b : Int)] H (fun e H' => e = .bool (decide (b ∈ nbrs c r a)) ∧ ∃ n', n ≤ n' ∧ hasH M n' H') := by
  refine FS.intro (pf := pf69) rfl rfl rfl ?_
  repeat' (first | refine zA ?_ | (refine zM ?_; intro _ _) | (apply Ws <;> intro hg))
  rename_i H1 hH1
  refine WR.op (by first | exact gN | exact gS rfl) rfl (OpV.quo' (c := ((a / c : Nat) : Int)) rfl rfl (by omega) (by omega) (by omega)) ?_
  repeat' (first | refine zA ?_ | (refine zM ?_; intro _ _) | (apply Ws <;> intro hg))
  refine WR.op (by first | exact gN | exact gS rfl) rfl (OpV.quo' (c := ((b / c : Nat) : Int)) rfl rfl (by omega) (by omega) (by omega)) ?_
  repeat' (first | refine zA ?_ | (refine zM ?_; intro _ _) | (apply Ws <;> intro hg))
  refine WC.condP rfl (fun hq => ?_) (fun hq => ?_)
  · have hq' : a / c = b / c := by omega
    repeat' (first | refine zA ?_ | (refine zM ?_; intro _ _) | (apply Ws <;> intro hg))
    refine WR.op (by first | exact gN | exact gS rfl) rfl (OpV.sub rfl rfl (by omega)) ?_
    repeat' (first | refine zA ?_ | (refine zM ?_; intro _ _) | (apply Ws <;> intro hg))
    · refine Ends.ret1 rfl ⟨?_, n + 1, by omega, hH1.tail⟩
      congr 1
      rw [eq_comm, decide_eq_true_iff, nbrs_iff hc ha hb]; omega
    · refine WR.op (by first | exact gN | exact gS rfl) rfl (OpV.sub rfl rfl (by omega)) ?_
      repeat' (first | refine zA ?_ | (refine zM ?_; intro _ _) | (apply Ws <;> intro hg))
      refine Ends.ret1 rfl ⟨?_, n + 1, by omega, hH1.tail⟩
      congr 1
      exact decide_eq_decide.2 (by rw [nbrs_iff hc ha hb]; omega)
  · have hq' : a / c ≠ b / c := by omega
    repeat' (first | refine zA ?_ | (refine zM ?_; intro _ _) | (apply Ws <;> intro hg))
    refine WR.op (by first | exact gN | exact gS rfl) rfl (OpV.sub rfl rfl (by omega)) ?_
    repeat' (first | refine zA ?_ | (refine zM ?_; intro _ _) | (apply Ws <;> intro hg))
    · refine Ends.ret1 rfl ⟨?_, n + 1, by omega, hH1.tail⟩
      congr 1
      rw [eq_comm, decide_eq_true_iff, nbrs_iff hc ha hb]; omega
    · refine WR.op (by first | exact gN | exact gS rfl) rfl (OpV.sub rfl rfl (by omega)) ?_
      repeat' (first | refine zA ?_ | (refine zM ?_; intro _ _) | (apply Ws <;> intro hg))
      refine Ends.ret1 rfl ⟨?_, n + 1, by omega, hH1.tail⟩
      congr 1
      exact decide_eq_decide.2 (by rw [nbrs_iff hc ha hb]; omega)

theorem last_fs {M : HL} {n : Nat} {H : Heap} (hH : hasH M n H) {rows c r : Nat} {v : Value} (h1 : one v = true) (hc : 1 ≤ c ∧ c ≤ 6) (hrows : 1 ≤ rows ∧ rows ≤ 6) (hr : r = rows * c) {a : Nat} (ha : a < r) :
    FS C 79 [.agg #[.int .i64 (rows : Int), .int .i64 (c : Int), v], .int .i64 (a : Int)] H (fun e H' => e = .bool (decide (r ∈ nbrs c r a)) ∧ ∃ n', n ≤ n' ∧ hasH M n' H') := by
  have h36 : r ≤ 36 := by
    have := Nat.mul_le_mul hrows.2 hc.2
    omega
  refine FS.intro (pf := pf79) rfl rfl rfl ?_
  repeat' (first | refine zA ?_ | (refine zM ?_; intro _ _) | (apply Ws <;> intro hg))
  rename_i H1 hH1
  refine WR.op (by first | exact gN | exact gS rfl) rfl (OpV.quo' (c := ((a / c : Nat) : Int)) rfl rfl (by omega) (by omega) (by omega)) ?_
  repeat' (first | refine zA ?_ | (refine zM ?_; intro _ _) | (apply Ws <;> intro hg))
  refine WR.op (by first | exact gN | exact gS rfl) rfl (OpV.sub rfl rfl (by omega)) ?_
  repeat' (first | refine zA ?_ | (refine zM ?_; intro _ _) | (apply Ws <;> intro hg))
  refine Ends.ret1 rfl ⟨?_, n + 1, by omega, hH1.tail⟩
  congr 1
  refine decide_eq_decide.2 ?_
  rw [nbrs_out ha]
  have hdiv := Nat.div_add_mod a c
  have hmod := Nat.mod_lt a (show 0 < c by omega)
  subst hr
  rcases cases6 hc with rfl | rfl | rfl | rfl | rfl | rfl <;> omega

end Go.Proofs.Ytmogipomnjihcaa.Eb

namespace Go.Proofs.Ytmogipomnjihcaa.Eb
open Go Go.Abs Go.Low
set_option linter.unusedVariables false
set_option linter.unusedSimpArgs false
attribute [local irreducible] gOK WS WC WR WD Ends FS YS OpV seqK blockK loopK midK retK rdK asgK rangeEnd sat Cell

theorem nodup_len : ∀ (r : Nat) (l : List Nat), l.Nodup → (∀ y ∈ l, y < r) → l.length ≤ r
  | 0, l, _, h => by
    cases l with
    | nil => simp
    | cons a l => exact absurd (h a (by simp)) (Nat.not_lt_zero _)
  | r + 1, l, hn, h => by
    by_cases hm : r ∈ l
    · have ih := nodup_len r (l.erase r) (hn.erase r) (fun y hy => by
        rw [hn.mem_erase_iff] at hy
        have := h y hy.2; omega)
      rw [List.length_erase_of_mem hm] at ih
      omega
    · have ih := nodup_len r l hn (fun y hy => by
        have := h y hy
        have : y ≠ r := fun e => hm (e ▸ hy)
        omega)
      omega

/-- From a place, through places of at most a height. -/
inductive RP (c r : Nat) (hs : List Int) (t : Int) (p : Nat) : Nat → Prop where
  | start (h : hs.getD p 0 ≤ t) : RP c r hs t p p
  | step {x y : Nat} (h : RP c r hs t p x) (hy : y ∈ nbrs c r x) (hr : y < r) (ht : hs.getD y 0 ≤ t) : RP c r hs t p y

theorem RP.top {c r : Nat} {hs : List Int} {t : Int} {p y : Nat} (h : RP c r hs t p y) : hs.getD y 0 ≤ t := by cases h <;> assumption
theorem RP.bot {c r : Nat} {hs : List Int} {t : Int} {p y : Nat} (h : RP c r hs t p y) : hs.getD p 0 ≤ t := by
  induction h with
  | start h => exact h
  | step _ _ _ _ ih => exact ih
theorem RP.lt {c r : Nat} {hs : List Int} {t : Int} {p y : Nat} (hp : p < r) (h : RP c r hs t p y) : y < r := by cases h <;> assumption
theorem RP.trans {c r : Nat} {hs : List Int} {t : Int} {p q y : Nat} (h : RP c r hs t p q) (k : RP c r hs t q y) : RP c r hs t p y := by
  induction k with
  | start _ => exact h
  | step _ hy hr ht ih => exact .step ih hy hr ht

section
variable {c r : Nat} {hs : List Int} (hc : 1 ≤ c ∧ c ≤ 6) (hcr : c ≤ r) (h0 : hs.getD r 0 = 0)
include hc hcr h0

theorem river_of {t : Int} (ht : 0 ≤ t) {p y : Nat} (hp : p < r) (h : RP c r hs t p y) (hy : r ∈ nbrs c r y) : Go.Low.Reach c r hs r t p := by
  have hyr := h.lt hp
  have h1 : Go.Low.Reach c r hs r t y := .step (.start (by omega)) (nbrs_symm hc hcr (Nat.le_of_lt hyr) hy) h.top
  clear hy hyr
  induction h with
  | start _ => exact h1
  | step hx hy hr ht' ih =>
    have hxr := hx.lt hp
    exact ih (.step h1 (nbrs_symm hc hcr (Nat.le_of_lt hxr) hy) hx.top)

theorem of_river {t : Int} {p : Nat} (h : Go.Low.Reach c r hs r t p) : p = r ∨ (p < r ∧ ∃ z, RP c r hs t p z ∧ r ∈ nbrs c r z) := by
  induction h with
  | start _ => exact .inl rfl
  | step hx hy ht ih =>
    rename_i x y
    have hxr : x ≤ r := by rcases ih with h | ⟨h, _⟩ <;> omega
    have hyr := nbrs_le hc.1 hcr hxr hy
    have hsy := nbrs_symm hc hcr hxr hy
    by_cases hyr' : y = r
    · exact .inl hyr'
    · refine .inr ⟨by omega, ?_⟩
      rcases ih with rfl | ⟨hxl, z, hz, hzr⟩
      · exact ⟨y, .start ht, hsy⟩
      · exact ⟨z, RP.trans (.step (.start ht) hsy hxl hz.bot) hz, hzr⟩

omit h0 in
theorem all_reach (hb : ∀ y, hs.getD y 0 ≤ 30) : ∀ (k y : Nat), y ≤ r → r - y ≤ k → Go.Low.Reach c r hs r 30 y := by
  intro k
  induction k with
  | zero =>
    intro y hy hk
    have : y = r := by omega
    subst this
    exact .start (hb _)
  | succ k ih =>
    intro y hy hk
    by_cases hyr : y = r
    · subst hyr; exact .start (hb _)
    · have hlt : y < r := by omega
      have hm : min (y + c) r ∈ nbrs c r y := by
        unfold nbrs
        rw [if_neg hyr]
        simp
      exact .step (ih (min (y + c) r) (by omega) (by omega)) (nbrs_symm hc hcr hy hm) (hb _)
end

theorem best_le {c r : Nat} {hs b : List Int} (hh : HS c r hs) (hc6 : c ≤ 6) (hl : Lowest c r hs r b) {p : Nat} (hp : p ≤ r) : b.getD p 0 ≤ 30 :=
  (hl.out.done hh (Nat.le_refl _) (Int.le_refl 30) hp).2 (all_reach ⟨hh.c1, hc6⟩ hh.cr (fun y => (hh.bd y).2) (r - p) p hp (Nat.le_refl _))

/-- A way to the river, found from a place. -/
theorem found_iff {c r : Nat} {hs b : List Int} (hh : HS c r hs) (hc6 : c ≤ 6) (h0 : hs.getD r 0 = 0) (hl : Lowest c r hs r b) {p : Nat} (hp : p < r) {t : Int} (ht : 0 ≤ t ∧ t ≤ 30) : (∃ y, RP c r hs t p y ∧ r ∈ nbrs c r y) ↔ b.getD p 0 ≤ t := by
  rw [hl.out.done hh (Nat.le_refl _) ht.2 (Nat.le_of_lt hp)]
  constructor
  · rintro ⟨y, h1, h2⟩; exact river_of ⟨hh.c1, hc6⟩ hh.cr h0 ht.1 hp h1 h2
  · intro h
    rcases of_river ⟨hh.c1, hc6⟩ hh.cr h0 h with rfl | ⟨_, h2⟩
    · exact absurd hp (Nat.lt_irrefl _)
    · exact h2

/-- Places that are met, some of them with all that is beside them. -/
structure Met (c r : Nat) (hs : List Int) (t : Int) (p : Nat) (met : List Nat) (i : Nat) : Prop where
  nd : met.Nodup
  rp : ∀ y ∈ met, RP c r hs t p y
  st : hs.getD p 0 ≤ t → p ∈ met
  cl : ∀ j, j < i → ∀ x, met[j]? = some x → ∀ y, y ∈ nbrs c r x → y < r → hs.getD y 0 ≤ t → y ∈ met

theorem Met.len {c r : Nat} {hs : List Int} {t : Int} {p : Nat} {met : List Nat} {i : Nat} (hp : p < r) (h : Met c r hs t p met i) : met.length ≤ r := nodup_len r met h.nd (fun y hy => (h.rp y hy).lt hp)

theorem Met.all {c r : Nat} {hs : List Int} {t : Int} {p : Nat} {met : List Nat} {i : Nat} (h : Met c r hs t p met i) (hi : met.length ≤ i) {y : Nat} : y ∈ met ↔ RP c r hs t p y := by
  refine ⟨h.rp y, fun hr => ?_⟩
  induction hr with
  | start h1 => exact h.st h1
  | step _ hy hr ht ih =>
    obtain ⟨j, hj, he⟩ := List.mem_iff_getElem.1 ih
    exact h.cl j (by omega) _ (by rw [List.getElem?_eq_getElem hj, he]) _ hy hr ht

theorem Met.push {c r : Nat} {hs : List Int} {t : Int} {p : Nat} {met : List Nat} {i x y : Nat} (h : Met c r hs t p met i) (hi : i < met.length) (hx : x ∈ met) (hy : y ∈ nbrs c r x) (hyr : y < r) (ht : hs.getD y 0 ≤ t) (hn : y ∉ met) : Met c r hs t p (met ++ [y]) i where
  nd := by
    rw [List.nodup_append]
    exact ⟨h.nd, by simp, fun a ha b hb => by rw [List.mem_singleton.1 hb]; exact fun e => hn (e ▸ ha)⟩
  rp z hz := by
    rcases List.mem_append.1 hz with h1 | h1
    · exact h.rp z h1
    · rw [List.mem_singleton.1 h1]; exact .step (h.rp x hx) hy hyr ht
  st hs := List.mem_append_left _ (h.st hs)
  cl j hj z hz w hw hwr hwt := by
    rw [List.getElem?_append_left (by omega)] at hz
    exact List.mem_append_left _ (h.cl j hj z hz w hw hwr hwt)

end Go.Proofs.Ytmogipomnjihcaa.Eb

namespace Go.Proofs.Ytmogipomnjihcaa.Eb
open Go Go.Abs Go.Low
set_option linter.unusedVariables false
set_option linter.unusedSimpArgs false
attribute [local irreducible] gOK WS WC WR WD Ends FS YS OpV seqK blockK loopK midK retK rdK asgK rangeEnd sat Cell

/-- From a place, through marked places. -/
inductive RM (c r : Nat) (ms : List Bool) (p : Nat) : Nat → Prop where
  | start (h : ms.getD p false = true) : RM c r ms p p
  | step {x y : Nat} (h : RM c r ms p x) (hy : y ∈ nbrs c r x) (ht : ms.getD y false = true) : RM c r ms p y

theorem RM.on {c r : Nat} {ms : List Bool} {p y : Nat} (h : RM c r ms p y) : ms.getD y false = true := by cases h <;> assumption
theorem RM.le {c r : Nat} {ms : List Bool} {p y : Nat} (hc : 1 ≤ c) (hcr : c ≤ r) (hp : p ≤ r) (h : RM c r ms p y) : y ≤ r := by
  induction h with
  | start _ => exact hp
  | step _ hy _ ih => exact nbrs_le hc hcr ih hy

/-- How many are not yet marked. -/
def offs : List Bool → Nat
  | [] => 0
  | b :: l => (if b then 0 else 1) + offs l

theorem offs_le : ∀ (l : List Bool), offs l ≤ l.length
  | [] => Nat.le_refl _
  | b :: l => by have := offs_le l; simp only [offs, List.length_cons]; split <;> omega

theorem offs_set : ∀ (l : List Bool) (y : Nat), y < l.length → l.getD y false = false → offs (l.set y true) + 1 = offs l
  | [], y, h, _ => absurd h (Nat.not_lt_zero _)
  | b :: l, 0, _, hb => by
    have : b = false := hb
    subst this
    simp [offs]; omega
  | b :: l, y + 1, h, hb => by
    have := offs_set l y (by simpa using h) (by simpa using hb)
    simp only [List.set_cons_succ, offs]; omega

theorem getB_set {l : List Bool} {y z : Nat} {v : Bool} (h : y < l.length) : (l.set y v).getD z false = if z = y then v else l.getD z false := by
  rw [List.getD_eq_getElem?_getD, List.getD_eq_getElem?_getD, List.getElem?_set]
  by_cases hz : z = y
  · subst hz; rw [if_pos rfl, if_pos rfl, if_pos h]; rfl
  · rw [if_neg (fun e => hz e.symm), if_neg hz]

/-- Marked so far, and yet to do; of x its neighbours zs. -/
structure RS (c r : Nat) (ms : List Bool) (p x : Nat) (zs : List Nat) (ts : List Bool) (w : List Nat) : Prop where
  len : ts.length = 37
  rp : ∀ y, ts.getD y false = true → RM c r ms p y
  st : ms.getD p false = true → ts.getD p false = true
  wk : ∀ y ∈ w, ts.getD y false = true
  cl : ∀ q, ts.getD q false = true → q ∉ w → ∀ y ∈ nbrs c r q, ms.getD y false = true → ts.getD y false = true ∨ (q = x ∧ y ∈ zs)

def measB (ts : List Bool) (w : List Nat) : Nat := 2 * offs ts + w.length

theorem RS.enter {c r : Nat} {ms : List Bool} {p x x' : Nat} {ts : List Bool} {w : List Nat} (h : RS c r ms p x' [] ts (x :: w)) : RS c r ms p x (nbrs c r x) ts w := by
  refine ⟨h.len, h.rp, h.st, fun y hy => h.wk y (by simp [hy]), fun q hq hqw y hy hm => ?_⟩
  by_cases hqx : q = x
  · subst hqx; exact .inr ⟨rfl, hy⟩
  · rcases h.cl q hq (by simp [hqx, hqw]) y hy hm with h1 | ⟨_, h2⟩
    · exact .inl h1
    · cases h2

theorem RS.push {c r : Nat} {ms : List Bool} {p x y : Nat} {zs : List Nat} {ts : List Bool} {w : List Nat} (h : RS c r ms p x (y :: zs) ts w) (hx : ts.getD x false = true) (hy : y ∈ nbrs c r x) (hl : y < 37) (hm : ms.getD y false = true) : RS c r ms p x zs (ts.set y true) (w ++ [y]) := by
  have hg := fun z => getB_set (l := ts) (y := y) (z := z) (v := true) (by rw [h.len]; exact hl)
  refine ⟨by simp [h.len], fun z hz => ?_, fun hp => ?_, fun z hz => ?_, fun q hq hqw z hz hmz => ?_⟩
  · rw [hg] at hz
    by_cases hzy : z = y
    · subst hzy; exact .step (h.rp x hx) hy hm
    · rw [if_neg hzy] at hz; exact h.rp z hz
  · rw [hg]; split
    · rfl
    · exact h.st hp
  · rw [hg]; split
    · rfl
    · rename_i hzy
      rcases List.mem_append.1 hz with h1 | h1
      · exact h.wk z h1
      · exact absurd (List.mem_singleton.1 h1) hzy
  · have hqy : q ≠ y := fun e => hqw (by simp [e])
    rw [hg, if_neg hqy] at hq
    rw [hg]
    by_cases hzy : z = y
    · exact .inl (if_pos hzy)
    · rw [if_neg hzy]
      rcases h.cl q hq (fun h1 => hqw (by simp [h1])) z hz hmz with h1 | ⟨h1, h2⟩
      · exact .inl h1
      · rcases List.mem_cons.1 h2 with h3 | h3
        · exact absurd h3 hzy
        · exact .inr ⟨h1, h3⟩

theorem RS.skip {c r : Nat} {ms : List Bool} {p x y : Nat} {zs : List Nat} {ts : List Bool} {w : List Nat} (h : RS c r ms p x (y :: zs) ts w) (hm : ms.getD y false = true → ts.getD y false = true) : RS c r ms p x zs ts w := by
  refine ⟨h.len, h.rp, h.st, h.wk, fun q hq hqw z hz hmz => ?_⟩
  rcases h.cl q hq hqw z hz hmz with h1 | ⟨h1, h2⟩
  · exact .inl h1
  · rcases List.mem_cons.1 h2 with h3 | h3
    · subst h3; exact .inl (hm hmz)
    · exact .inr ⟨h1, h3⟩

theorem RS.done {c r : Nat} {ms : List Bool} {p x : Nat} {ts : List Bool} (h : RS c r ms p x [] ts []) (y : Nat) : ts.getD y false = true ↔ RM c r ms p y := by
  refine ⟨h.rp y, fun k => ?_⟩
  induction k with
  | start hm => exact h.st hm
  | step _ hy hm ih =>
    rcases h.cl _ ih (by simp) _ hy hm with h1 | ⟨_, h2⟩
    · exact h1
    · cases h2

theorem RS.init {c r : Nat} {ms : List Bool} {p : Nat} (hp : p < 37) : RS c r ms p p [] ((List.replicate 37 false).set p (ms.getD p false)) (marked ((List.replicate 37 false).set p (ms.getD p false)) 37) := by
  have hg := fun z => getB_set (l := List.replicate 37 false) (y := p) (z := z) (v := ms.getD p false) (by simpa using hp)
  have hf : ∀ z, (List.replicate 37 false).getD z false = false := fun z => by
    rw [List.getD_eq_getElem?_getD, List.getElem?_replicate]; split <;> rfl
  have hw : ∀ y, y ∈ marked ((List.replicate 37 false).set p (ms.getD p false)) 37 ↔ y < 37 ∧ ((List.replicate 37 false).set p (ms.getD p false)).getD y false = true := fun y => by
    rw [marked, List.mem_filter, List.mem_range]
  refine ⟨by simp, fun y hy => ?_, fun hm => ?_, fun y hy => ((hw y).1 hy).2, fun q hq hqw => ?_⟩
  · rw [hg] at hy
    by_cases hyp : y = p
    · subst hyp; rw [if_pos rfl] at hy; exact .start hy
    · rw [if_neg hyp, hf] at hy; cases hy
  · rw [hg, if_pos rfl]; exact hm
  · refine absurd ((hw q).2 ⟨?_, hq⟩) hqw
    rw [hg] at hq
    by_cases hyp : q = p
    · omega
    · rw [if_neg hyp, hf] at hq; cases hq
end Go.Proofs.Ytmogipomnjihcaa.Eb

namespace Go.Proofs.Ytmogipomnjihcaa.Eb
open Go Go.Abs Go.Low
set_option linter.unusedVariables false
set_option linter.unusedSimpArgs false
attribute [local irreducible] gOK WS WC WR WD Ends FS YS OpV seqK blockK loopK midK retK rdK asgK rangeEnd sat Cell

/-- A way of so many steps from the river, through places of at most a height. -/
inductive Dk (c r : Nat) (hs : List Int) (h : Int) : Nat → Nat → Prop where
  | zero : Dk c r hs h 0 r
  | succ {k x y : Nat} (hx : Dk c r hs h k x) (hy : y ∈ nbrs c r x) (ht : hs.getD y 0 ≤ h) : Dk c r hs h (k + 1) y

theorem Dk.le {c r : Nat} {hs : List Int} {h : Int} (hc : 1 ≤ c) (hcr : c ≤ r) {k y : Nat} (d : Dk c r hs h k y) : y ≤ r := by
  induction d with
  | zero => exact Nat.le_refl _
  | succ _ hy _ ih => exact nbrs_le hc hcr ih hy

/-- How many numbers are 37. -/
def offsI : List Int → Nat
  | [] => 0
  | a :: l => (if a = 37 then 1 else 0) + offsI l

theorem offsI_le : ∀ l : List Int, offsI l ≤ l.length
  | [] => Nat.le_refl _
  | a :: l => by simp only [offsI, List.length_cons]; have := offsI_le l; split <;> omega

theorem offsI_set : ∀ (l : List Int) (y : Nat) (v : Int), y < l.length → l.getD y 0 = 37 → v ≠ 37 → offsI (l.set y v) + 1 = offsI l
  | [], y, v, h, _, _ => absurd h (Nat.not_lt_zero _)
  | a :: l, 0, v, _, h, hv => by
    simp only [List.getD_cons_zero] at h
    simp only [List.set_cons_zero, offsI, if_pos h, if_neg hv]; omega
  | a :: l, y + 1, v, h, hy, hv => by
    simp only [List.getD_cons_succ] at hy
    simp only [List.set_cons_succ, offsI]
    have := offsI_set l y v (by simpa using h) hy hv
    omega

theorem offsI_rep : ∀ n : Nat, offsI (List.replicate n 37) = n
  | 0 => rfl
  | n + 1 => by simp only [List.replicate_succ, offsI, offsI_rep n, if_true]; omega

/-- A round of the search: place x, of whose neighbours some are still to come. -/
structure BS (c r : Nat) (hs : List Int) (h : Int) (x : Nat) (zs : List Nat) (b : List Int) (w : List Nat) : Prop where
  len : b.length = 37
  root : b.getD r 0 = 0
  rng : ∀ y, y < 37 → b.getD y 0 = 37 ∨ ∃ k : Nat, b.getD y 0 = (k : Int) ∧ Dk c r hs h k y ∧ y ≤ r ∧ k + 1 + offsI (b.take (r + 1)) ≤ r + 1
  wk : ∀ y ∈ w, y ≤ r ∧ b.getD y 0 ≠ 37
  sort : w.Pairwise (fun u v => b.getD u 0 ≤ b.getD v 0)
  hd : ∀ y ∈ w, b.getD x 0 ≤ b.getD y 0
  top : ∀ y, y ≤ r → b.getD y 0 ≠ 37 → b.getD y 0 ≤ b.getD x 0 + 1
  rel : ∀ u, u ≤ r → b.getD u 0 ≠ 37 → u ∉ w → ∀ y ∈ nbrs c r u, hs.getD y 0 ≤ h → (b.getD y 0 ≠ 37 ∧ b.getD y 0 ≤ b.getD u 0 + 1) ∨ (u = x ∧ y ∈ zs)

def measI (r : Nat) (b : List Int) (w : List Nat) : Nat := 2 * offsI (b.take (r + 1)) + w.length

section
variable {c r : Nat} {hs : List Int} {h : Int}

theorem BS.enter {x x' : Nat} {b : List Int} {w : List Nat} (k : BS c r hs h x' [] b (x :: w)) : BS c r hs h x (nbrs c r x) b w where
  len := k.len
  root := k.root
  rng := k.rng
  wk y hy := k.wk y (by simp [hy])
  sort := (List.pairwise_cons.1 k.sort).2
  hd y hy := (List.pairwise_cons.1 k.sort).1 y hy
  top y hy hn := by
    have h1 := k.top y hy hn
    have h2 := k.hd x (by simp)
    omega
  rel u hu hn hw y hy ht := by
    by_cases hux : u = x
    · subst hux; exact .inr ⟨rfl, hy⟩
    · rcases k.rel u hu hn (by simp [hux, hw]) y hy ht with h1 | ⟨_, h2⟩
      · exact .inl h1
      · cases h2

theorem BS.push (hr : r ≤ 36) {x y : Nat} {zs : List Nat} {b : List Int} {w : List Nat} (k : BS c r hs h x (y :: zs) b w) (hx : x ≤ r) (hxb : b.getD x 0 ≠ 37) (hy : y ∈ nbrs c r x) (hyr : y ≤ r) (ht : hs.getD y 0 ≤ h) (hn : b.getD y 0 = 37) :
    b.getD x 0 + 1 ≤ 36 ∧ BS c r hs h x zs (b.set y (b.getD x 0 + 1)) (w ++ [y]) ∧ measI r (b.set y (b.getD x 0 + 1)) (w ++ [y]) + 1 = measI r b w := by
  have hl := k.len
  obtain ⟨d, hd, hdk, _, hdn⟩ := (k.rng x (by omega)).resolve_left hxb
  have hty : (b.take (r + 1)).getD y 0 = 37 := by rw [List.getD_eq_getElem?_getD, List.getElem?_take_of_lt (by omega), ← List.getD_eq_getElem?_getD]; exact hn
  have hoff : 1 ≤ offsI (b.take (r + 1)) := by
    have := offsI_set (b.take (r + 1)) y 0 (by simp; omega) hty (by decide)
    omega
  have h36 : b.getD x 0 + 1 ≤ 36 := by omega
  have hset : offsI ((b.set y (b.getD x 0 + 1)).take (r + 1)) + 1 = offsI (b.take (r + 1)) := by
    rw [List.take_set]
    exact offsI_set _ y _ (by simp; omega) hty (by omega)
  have hg := fun z => getD_set (l := b) (y := y) (z := z) (v := b.getD x 0 + 1) (by omega)
  have hxy : x ≠ y := fun e => hxb (e ▸ hn)
  have hwy : y ∉ w := fun hw => (k.wk y hw).2 hn
  have hgw : ∀ z ∈ w, (b.set y (b.getD x 0 + 1)).getD z 0 = b.getD z 0 := fun z hz => by rw [hg, if_neg (show ¬ z = y from fun e => hwy (e ▸ hz))]
  have hgx : (b.set y (b.getD x 0 + 1)).getD x 0 = b.getD x 0 := by rw [hg, if_neg hxy]
  have hgy : (b.set y (b.getD x 0 + 1)).getD y 0 = b.getD x 0 + 1 := by rw [hg, if_pos rfl]
  refine ⟨h36, ?_, ?_⟩
  · constructor
    · simp [hl]
    · rw [hg, if_neg (fun e => ?_)]
      · exact k.root
      · subst e; have := k.root; omega
    · intro z hz
      rw [hg]
      by_cases hzy : z = y
      · subst hzy
        rw [if_pos rfl]
        exact .inr ⟨d + 1, by omega, .succ hdk hy ht, hyr, by omega⟩
      · rw [if_neg hzy]
        rcases k.rng z hz with h1 | ⟨e, h1, h2, h3, h4⟩
        · exact .inl h1
        · exact .inr ⟨e, h1, h2, h3, by omega⟩
    · intro z hz
      rcases List.mem_append.1 hz with h1 | h1
      · rw [hgw z h1]; exact k.wk z h1
      · rw [List.mem_singleton.1 h1, hgy]; exact ⟨hyr, by omega⟩
    · rw [List.pairwise_append]
      refine ⟨?_, List.pairwise_singleton _ _, fun a ha b' hb' => ?_⟩
      · refine List.Pairwise.imp_of_mem (fun ha hb hab => ?_) k.sort
        rw [hgw _ ha, hgw _ hb]; exact hab
      · rw [List.mem_singleton.1 hb', hgy, hgw a ha]
        have := k.wk a ha
        exact k.top a this.1 this.2
    · intro z hz
      rw [hgx]
      rcases List.mem_append.1 hz with h1 | h1
      · rw [hgw z h1]; exact k.hd z h1
      · rw [List.mem_singleton.1 h1, hgy]; omega
    · intro z hz hzn
      rw [hgx]
      rw [hg] at hzn ⊢
      by_cases hzy : z = y
      · rw [if_pos hzy]; omega
      · rw [if_neg hzy] at hzn ⊢; exact k.top z hz hzn
    · intro u hu hun huw z hz hzt
      have huy : u ≠ y := fun e => huw (by simp [e])
      rw [hg, if_neg huy] at hun
      rw [hg z, hg u, if_neg huy]
      by_cases hzy : z = y
      · subst hzy
        rw [if_pos rfl]
        by_cases hux : u = x
        · subst hux; exact .inl ⟨by omega, by omega⟩
        · rcases k.rel u hu hun (fun h1 => huw (by simp [h1])) z hz hzt with ⟨h1, _⟩ | ⟨h1, _⟩
          · exact absurd hn h1
          · exact absurd h1 hux
      · rw [if_neg hzy]
        rcases k.rel u hu hun (fun h1 => huw (by simp [h1])) z hz hzt with h1 | ⟨h1, h2⟩
        · exact .inl h1
        · rcases List.mem_cons.1 h2 with h3 | h3
          · exact absurd h3 hzy
          · exact .inr ⟨h1, h3⟩
  · simp only [measI, List.length_append, List.length_cons, List.length_nil]; omega

theorem BS.skip {x y : Nat} {zs : List Nat} {b : List Int} {w : List Nat} (k : BS c r hs h x (y :: zs) b w) (hyr : y ≤ r) (hm : hs.getD y 0 ≤ h → b.getD y 0 ≠ 37) : BS c r hs h x zs b w where
  len := k.len
  root := k.root
  rng := k.rng
  wk := k.wk
  sort := k.sort
  hd := k.hd
  top := k.top
  rel u hu hn hw z hz ht := by
    rcases k.rel u hu hn hw z hz ht with h1 | ⟨h1, h2⟩
    · exact .inl h1
    · rcases List.mem_cons.1 h2 with h3 | h3
      · subst h3; subst h1; exact .inl ⟨hm ht, k.top _ hyr (hm ht)⟩
      · exact .inr ⟨h1, h3⟩

/-- How many steps lead to the river: 37 where none do. -/
structure Dist (c r : Nat) (hs : List Int) (h : Int) (b : List Int) : Prop where
  len : b.length = 37
  root : b.getD r 0 = 0
  rng : ∀ y, y < 37 → b.getD y 0 = 37 ∨ ∃ k : Nat, b.getD y 0 = (k : Int) ∧ Dk c r hs h k y ∧ y ≤ r ∧ k ≤ r
  rel : ∀ u, u ≤ r → b.getD u 0 ≠ 37 → ∀ y ∈ nbrs c r u, hs.getD y 0 ≤ h → b.getD y 0 ≠ 37 ∧ b.getD y 0 ≤ b.getD u 0 + 1

theorem BS.done {x : Nat} {b : List Int} (k : BS c r hs h x [] b []) : Dist c r hs h b where
  len := k.len
  root := k.root
  rng y hy := by
    rcases k.rng y hy with h1 | ⟨e, h1, h2, h3, h4⟩
    · exact .inl h1
    · exact .inr ⟨e, h1, h2, h3, by omega⟩
  rel u hu hn y hy ht := by
    rcases k.rel u hu hn (by simp) y hy ht with h1 | ⟨_, h2⟩
    · exact h1
    · cases h2

theorem BS.init (hr : r ≤ 36) : BS c r hs h r [] ((List.replicate 37 37).set r 0) [r] := by
  have hg := fun z => getD_set (l := List.replicate 37 (37 : Int)) (y := r) (z := z) (v := 0) (by simp; omega)
  have h37 : ∀ z, z < 37 → (List.replicate 37 (37 : Int)).getD z 0 = 37 := fun z hz => by rw [List.getD_eq_getElem?_getD, List.getElem?_replicate, if_pos hz]; rfl
  have ho : offsI (((List.replicate 37 (37 : Int)).set r 0).take (r + 1)) + 1 = r + 1 := by
    rw [List.take_set, List.take_replicate, Nat.min_eq_left (by omega)]
    rw [offsI_set _ r 0 (by simp) ?_ (by decide), offsI_rep]
    rw [List.getD_eq_getElem?_getD, List.getElem?_replicate, if_pos (by omega)]; rfl
  constructor
  · simp
  · rw [hg, if_pos rfl]
  · intro y hy
    rw [hg]
    by_cases hyr : y = r
    · subst hyr; rw [if_pos rfl]; exact .inr ⟨0, rfl, .zero, Nat.le_refl _, by omega⟩
    · rw [if_neg hyr]; exact .inl (h37 y hy)
  · intro y hy
    rw [List.mem_singleton.1 hy, hg, if_pos rfl]; exact ⟨Nat.le_refl _, by decide⟩
  · exact List.pairwise_singleton _ _
  · intro y hy; rw [List.mem_singleton.1 hy]; exact Int.le_refl _
  · intro y hy hn
    rw [hg] at hn ⊢
    by_cases hyr : y = r
    · rw [if_pos hyr, hg, if_pos rfl]; decide
    · rw [if_neg hyr, h37 y (by omega)] at hn; exact absurd rfl hn
  · intro u hu hn hw
    rw [hg] at hn
    rw [if_neg (fun e => hw (by simp [e])), h37 u (by omega)] at hn
    exact absurd rfl hn
end

section
variable {c r : Nat} {hs : List Int} {h : Int} (hh : HS c r hs) {b : List Int} (D : Dist c r hs h b)
include hh D

theorem Dist.min {k y : Nat} (d : Dk c r hs h k y) : b.getD y 0 ≠ 37 ∧ b.getD y 0 ≤ (k : Int) := by
  induction d with
  | zero => rw [D.root]; exact ⟨by decide, by simp⟩
  | succ hx hy ht ih =>
    have h1 := D.rel _ (hx.le hh.c1 hh.cr) ih.1 _ hy ht
    exact ⟨h1.1, by have := ih.2; omega⟩

theorem Dist.at_ {y : Nat} (hy : y ≤ r) : b.getD y 0 = 37 ∨ ∃ k : Nat, b.getD y 0 = (k : Int) ∧ Dk c r hs h k y ∧ k ≤ r := by
  have h36 := hh.r36
  rcases D.rng y (by omega) with h1 | ⟨k, h1, h2, _, h4⟩
  · exact .inl h1
  · exact .inr ⟨k, h1, h2, h4⟩

omit hh D in
theorem Dk.zero_ {y : Nat} (d : Dk c r hs h 0 y) : y = r := by cases d; rfl

/-- Whoever is marked, and not the river, has a neighbour one step nearer. -/
theorem Dist.pred {y k : Nat} (hy : y ≤ r) (hk : b.getD y 0 = ((k + 1 : Nat) : Int)) (h37 : k + 1 ≠ 37) : hs.getD y 0 ≤ h ∧ ∃ x, x ≤ r ∧ y ∈ nbrs c r x ∧ b.getD x 0 = (k : Int) := by
  rcases D.at_ hh hy with h1 | ⟨k', h1, h2, _⟩
  · omega
  · have : k' = k + 1 := by omega
    subst this
    cases h2 with
    | succ hx hyn ht =>
      have h3 := D.min hh hx
      have hxr := hx.le hh.c1 hh.cr
      have h4 := (D.rel _ hxr h3.1 _ hyn ht).2
      exact ⟨ht, _, hxr, hyn, by omega⟩
end
end Go.Proofs.Ytmogipomnjihcaa.Eb

namespace Go.Proofs.Ytmogipomnjihcaa.Eb
open Go Go.Abs Go.Low
set_option linter.unusedVariables false
set_option linter.unusedSimpArgs false
attribute [local irreducible] gOK WS WC WR WD Ends FS YS OpV seqK blockK loopK midK retK rdK asgK rangeEnd sat Cell

theorem falses37 : List.replicate 37 (Value.bool false) = bools (List.replicate 37 false) := rfl

structure RL where
  ts : List Bool
  w : List Nat
  v : Value
  Mx : HL
  D : List Nat
  bw : Nat
  n : Nat

set_option maxHeartbeats 1000000 in
theorem reach_fs {M : HL} {n : Nat} {H : Heap} (hH : hasH M n H) {bg bm e c r p : Nat} {hs : List Int} {ms : List Bool} (hm : (bg, .row 99 0 0 (gcells c r hs)) ∈ M) (hmm : (bm, .row e 0 0 (bools ms)) ∈ M) (hl : ms.length = 37) (hh : HS c r hs) (hc6 : c ≤ 6) (hp : p ≤ r) :
    FS C 67 [.pointer (some ⟨bg, 0, some 0⟩), .int .i64 (p : Int), .pointer (some ⟨bm, 0, some 0⟩)] H (fun v H' => ∃ b n' ts, v = .pointer (some ⟨b, 0, some 0⟩) ∧ n ≤ n' ∧ hasH ((b, .row 97 0 0 (bools ts)) :: M) n' H' ∧ ts.length = 37 ∧ ∀ y, ts.getD y false = true ↔ RM c r ms p y) := by
  have h36 := hh.r36
  refine FS.intro (pf := pf67) rfl rfl rfl ?_
  repeat' (first | refine zA ?_ | (refine zM ?_; intro _ _) | (apply Ws <;> intro hg))
  rename_i H1 hH1
  rw [falses37] at hH1
  refine WR.op (by first | exact gN | exact gS rfl) rfl (OpV.loadB (b := bm) (e := e) (xs := ms) rfl hH1 (by simp [hmm]) (by omega)) ?_
  repeat' (first | refine zA ?_ | (refine zM ?_; intro _ _) | (apply Ws <;> intro hg))
  refine WR.storeB (by first | exact gN | exact gS rfl) hH1 rfl rfl .here (by simp; omega) fun H2 hH2 => ?_
  have hinit := RS.init (c := c) (r := r) (ms := ms) (p := p) (by omega)
  generalize (List.replicate 37 false).set p (ms.getD p false) = ts0 at hH2 hinit
  replace hH2 : hasH ((n + 1, .row 97 0 0 (bools ts0)) :: (n, .row 101 0 0 [.pointer (some ⟨bm, 0, some 0⟩)]) :: M) (n + 1 + 1) H2 := hH2
  clear hH1
  repeat' (first | refine zA ?_ | (refine zM ?_; intro _ _) | (apply Ws <;> intro hg))
  refine WR.call (by first | exact gN | exact gS rfl) rfl rfl (marks_fs hH2 (.head _) hinit.len) ?_
  rintro v H3 ⟨Mx, n3, hn3, hO, hH3⟩
  have hv1 := (hO.sl M).one_
  repeat' (first | refine zA ?_ | (refine zM ?_; intro _ _) | (apply Ws <;> intro hg))
  rename_i hb
  have hms0 := offs_le ts0
  have hml := marked_len ts0 37
  refine WC.loop (fun a : RL => [(0, .pointer (some ⟨bg, 0, some 0⟩)), (5, .pointer (some ⟨n, 0, some 0⟩)), (7, .pointer (some ⟨n + 1, 0, some 0⟩)), (8, .pointer (some ⟨a.bw, 0, some 0⟩))]) (fun a => a.D)
    (fun a H => hasH ((a.bw, .row 22 0 0 [a.v]) :: (n + 1, .row 97 0 0 (bools a.ts)) :: (n, .row 101 0 0 [.pointer (some ⟨bm, 0, some 0⟩)]) :: (a.Mx ++ (defds a.D ++ M))) a.n H ∧
      Own 3 1 a.v (nodes a.w) a.Mx ∧ (∃ x, RS c r ms p x [] a.ts a.w) ∧ measB a.ts a.w ≤ 200 ∧ n ≤ a.n) (fun a => measB a.ts a.w)
    ⟨ts0, marked ts0 37, v, Mx, [], n3, n3 + 1⟩ (by repeat' (first | exact .nil | refine .cons rfl ?_)) rfl ⟨hb.perm (by classical exact List.perm_iff_count.2 (fun a => by simp only [defds, List.map_cons, List.map_nil, List.count_append, List.count_cons, List.count_nil, List.cons_append, List.nil_append, List.append_nil]; omega)), hO, ⟨p, hinit⟩, by have := hinit.len; simp only [measB]; omega, by simp only; omega⟩ ?_
  clear hb hO hinit hH3 hH2 hms0 hml hv1
  rintro ⟨ts, w, v, Mx, D, bw, nn⟩ H4 ⟨hH4, hO, ⟨x', hR0⟩, hms, hn⟩
  simp only at hH4 hO hR0 hms hn
  dsimp only
  have hSl := hO.sl (defds D ++ M)
  have hSl2 : Sl ((bw, .row 22 0 0 [v]) :: (n + 1, .row 97 0 0 (bools ts)) :: (n, .row 101 0 0 [.pointer (some ⟨bm, 0, some 0⟩)]) :: (Mx ++ (defds D ++ M))) 1 v (nodes w) := hSl.cons.cons.cons
  have hv1 := hSl.one_
  repeat' (first | refine zA ?_ | (refine zM ?_; intro _ _) | (apply Ws <;> intro hg))
  refine WR.op (by first | exact gN | exact gS rfl) rfl (OpV.lenS rfl hSl) ?_
  repeat' (first | refine zA ?_ | (refine zM ?_; intro _ _) | (apply Ws <;> intro hg))
  refine WC.condP rfl (fun hlt => ?_) (fun hlt => ?_)
  · cases w with
    | nil => exact absurd hlt (by simp)
    | cons x w0 =>
    have hxt := hR0.wk x (by simp)
    have hx : x ≤ r := (hR0.rp x hxt).le hh.c1 hh.cr hp
    repeat' (first | refine zA ?_ | (refine zM ?_; intro _ _) | (apply Ws <;> intro hg))
    refine WR.idxSl (by first | exact gN | exact gS rfl) rfl rfl hSl2 rfl (m := 0) rfl (c := .int .i64 (x : Int)) rfl fun b' o' u' hc => ?_
    repeat' (first | refine zA ?_ | (refine zM ?_; intro _ _) | (apply Ws <;> intro hg))
    have hmem : (bg, Ch.row 99 0 0 (gcells c r hs)) ∈ Mx ++ (defds D ++ M) := by simp [hm]
    refine WR.call (by first | exact gN | exact gS rfl) rfl rfl (neighbours_fs (by assumption) (hs := hs) (r := r) (c := c) (by first | assumption | exact .head _ | exact .tail _ (.head _) | exact .tail _ (.tail _ (.head _)) | exact .tail _ (.tail _ (.tail _ (.head _))) | exact .tail _ (.tail _ (.tail _ (.tail _ (.head _)))) | exact .tail _ (.tail _ (.tail _ (.tail _ (.tail _ (.head _))))) | exact .tail _ (.tail _ (.tail _ (.tail _ (.tail _ (.tail _ (.head _)))))) | (repeat' (first | assumption | apply List.mem_cons_of_mem))) ⟨hh.c1, hc6⟩ hh.cr hx h36) ?_
    rintro _ H5 ⟨g, va, vb, Mn, n5, rfl, hn5, hH5, hit⟩
    repeat' (first | refine zA ?_ | (refine zM ?_; intro _ _) | (apply Ws <;> intro hg))
    refine WC.range0 rfl hH5 fun t ht H6 hH6 => ?_
    generalize hR : ({ state := .ready, pending := none, fn := 67, tmps := t, params := [28], assign := _, body := _, nt := _ } : LoopE) = R at hH6
    generalize hmm0 : measB ts (x :: w0) = mm at hms
    have h0 := hit (n5 + 1) (fun zs H => ∃ ts w v Mx nn' zr, hasH ((n5 + 1, .loop R) :: (bw, .row 22 0 0 [v]) :: (n + 1, .row 97 0 0 (bools ts)) :: (n, .row 101 0 0 [.pointer (some ⟨bm, 0, some 0⟩)]) :: (Mx ++ (Mn ++ ((n5, .defd false) :: (defds D ++ M))))) nn' H ∧
      Own 3 1 v (nodes (x :: w)) Mx ∧ RS c r ms p x zr ts w ∧ ts.getD x false = true ∧ zs = nodes zr ∧ measB ts (x :: w) ≤ mm ∧ n ≤ nn' ∧ (∀ z ∈ zr, z ∈ nbrs c r x)) (fun _ => False) ?_ ?_ H6
      ⟨ts, w0, v, Mx, n5 + 2, nbrs c r x, hH6.perm (by classical exact List.perm_iff_count.2 (fun a => by simp only [defds, List.map_cons, List.map_nil, List.count_append, List.count_cons, List.count_nil, List.cons_append, List.nil_append, List.append_nil]; omega)), hO, hR0.enter, hxt, rfl, Nat.le_of_eq hmm0, by omega, fun z hz => hz⟩
    · refine FS.mono h0 ?_
      rintro _ H7 (⟨ts2, w, v, Mx, nn', zr, hH7, hO, hR2, hxt, hzs, hms2, hnn, _⟩ | hf)
      · have hzn : zr = [] := by
          cases zr with
          | nil => rfl
          | cons => cases hzs
        subst hzn
        refine rangeEnd_of hH7 .here (by rw [← hR]; simp) (by rw [← hR]; rfl) fun H8 hH8 => ?_
        repeat' (first | refine zA ?_ | (refine zM ?_; intro _ _) | (apply Ws <;> intro hg))
        have hv1 := (hO.sl M).one_
        repeat' (first | refine zA ?_ | (refine zM ?_; intro _ _) | (apply Ws <;> intro hg))
        rename_i hq
        refine WR.slOwnF [_, _, _, _, _] Mx _ (by first | exact gN | exact gS rfl) rfl rfl hO hq rfl (a := 1) (by simp) (Nat.le_refl _) (Nat.le_refl _) fun v2 Mx2 hO2 hH9 => ?_
        simp only [List.cons_append, List.nil_append] at hH9
        have hv2 := (hO2.sl M).one_
        repeat' (first | refine zA ?_ | (refine zM ?_; intro _ _) | (apply Ws <;> intro hg))
        rename_i hq2
        refine Ends.loop ⟨ts2, w, v2, Mx2, n5 :: D, nn', nn' + 1⟩ (by simp only [measB, List.length_cons] at hms2 hmm0 ⊢; omega) (by repeat' (first | exact .nil | refine .cons rfl ?_)) rfl ⟨?_, hO2, ⟨x, hR2⟩, by simp only [measB, List.length_cons] at hms2 hms ⊢; omega, by simp only; omega⟩
        exact hq2.sub (.cons_cons _ (.cons _ (.cons _ (.cons_cons _ (.cons_cons _ (.append (.refl _) (List.sublist_append_right _ _)))))))
      · exact hf.elim
    · rintro zs H ⟨ts2, w, v, Mx, nn', zr, hH7, _⟩
      exact ⟨_, _, hH7, fun q hq => by simp [hq], by simp [hm]⟩
    · rintro z zs H ⟨ts2, w, v, Mx, nn', zr, hH7, hO, hR2, hxt, hzs, hms2, hnn, hzn⟩
      cases zr with
      | nil => cases hzs
      | cons y zr =>
      obtain ⟨rfl, rfl⟩ : z = .int .i64 (y : Int) ∧ zs = nodes zr := by simpa using hzs
      have hyn := hzn y (by simp)
      have hyr := nbrs_le hh.c1 hh.cr hx hyn
      have htl := hR2.len
      have hol := offs_le ts2
      refine YS.intro hH7 (.head _) (by rw [← hR]) (by rw [← hR]) (by rw [← hR]; rfl) (by rw [← hR]; exact ht) ?_
      subst hR
      dsimp only
      repeat' (first | refine zA ?_ | (refine zM ?_; intro _ _) | (apply Ws <;> intro hg))
      refine Ends.asg hH7 .here fun H8 hH8 => ?_
      dsimp only
      repeat' (first | refine zA ?_ | (refine zM ?_; intro _ _) | (apply Ws <;> intro hg))
      refine WR.op (by first | exact gN | exact gS rfl) rfl (OpV.loadB (b := bm) (e := e) (xs := ms) rfl hH8 (by simp [hmm]) (by omega)) ?_
      cases hmy : ms.getD y false with
      | true =>
        repeat' (first | refine zA ?_ | (refine zM ?_; intro _ _) | (apply Ws <;> intro hg))
        refine WR.op (by first | exact gN | exact gS rfl) rfl (OpV.loadB (b := n + 1) (e := 97) (xs := ts2) rfl hH8 (by first | assumption | exact .head _ | exact .tail _ (.head _) | exact .tail _ (.tail _ (.head _)) | exact .tail _ (.tail _ (.tail _ (.head _))) | exact .tail _ (.tail _ (.tail _ (.tail _ (.head _)))) | exact .tail _ (.tail _ (.tail _ (.tail _ (.tail _ (.head _))))) | exact .tail _ (.tail _ (.tail _ (.tail _ (.tail _ (.tail _ (.head _)))))) | (repeat' (first | assumption | apply List.mem_cons_of_mem))) (by omega)) ?_
        cases hty : ts2.getD y false with
        | true =>
          repeat' (first | refine zA ?_ | (refine zM ?_; intro _ _) | (apply Ws <;> intro hg))
          exact Ends.rd rfl rfl rfl hH8 .here fun H' h' => .inl ⟨rfl, ts2, w, v, Mx, nn', zr, h', hO, hR2.skip (fun _ => hty), hxt, rfl, hms2, hnn, fun z hz => hzn z (by simp [hz])⟩
        | false =>
          have hos := offs_set ts2 y (by omega) hty
          have hsl : (nodes (x :: w)).length + 1 ≤ 100000 := by
            simp only [measB, List.length_cons] at hms2
            simp only [List.length_map, List.length_cons]
            omega
          repeat' (first | refine zA ?_ | (refine zM ?_; intro _ _) | (apply Ws <;> intro hg))
          refine WR.storeB (by first | exact gN | exact gS rfl) hH8 rfl rfl (by first | exact .here | exact .there .here | exact .there (.there .here) | exact .there (.there (.there .here)) | exact .there (.there (.there (.there .here))) | exact .there (.there (.there (.there (.there .here))))) (by omega) fun H9 hH9 => ?_
          repeat' (first | refine zA ?_ | (refine zM ?_; intro _ _) | (apply Ws <;> intro hg))
          refine WR.append1F [_, _, _, _] Mx _ rfl rfl rfl rfl hO hH9 (new := [.int .i64 (y : Int)]) (by rfl) rfl rfl (Nat.le_refl _) (by omega) hsl fun v2 Mx2 n9 H10 hO2 hH10 hn10 => ?_
          simp only [List.cons_append, List.nil_append] at hH10
          have hv2 := (hO2.sl M).one_
          repeat' (first | refine zA ?_ | (refine zM ?_; intro _ _) | (apply Ws <;> intro hg))
          rename_i hq
          refine Ends.rd rfl rfl rfl hq .here fun H' h' => .inl ⟨rfl, ts2.set y true, w ++ [y], v2, Mx2, n9, zr, h', by simpa using hO2, hR2.push hxt hyn (by omega) hmy, ?_, rfl, ?_, by omega, fun z hz => hzn z (by simp [hz])⟩
          · rw [getB_set (by omega)]; split
            · rfl
            · exact hxt
          · simp only [measB, List.length_cons, List.length_append, List.length_nil] at hms2 ⊢; omega
      | false =>
        repeat' (first | refine zA ?_ | (refine zM ?_; intro _ _) | (apply Ws <;> intro hg))
        exact Ends.rd rfl rfl rfl hH8 .here fun H' h' => .inl ⟨rfl, ts2, w, v, Mx, nn', zr, h', hO, hR2.skip (fun h => by rw [hmy] at h; cases h), hxt, rfl, hms2, hnn, fun z hz => hzn z (by simp [hz])⟩
  · have hw : w = [] := by
      cases w with
      | nil => rfl
      | cons => exact absurd (by simp) hlt
    subst hw
    repeat' (first | refine zA ?_ | (refine zM ?_; intro _ _) | (apply Ws <;> intro hg))
    refine Ends.ret1D (M' := defds D ++ ((n + 1, .row 97 0 0 (bools ts)) :: M)) (M0 := (n + 1, .row 97 0 0 (bools ts)) :: M) rfl (hH4.perm (M' := (bw, .row 22 0 0 [v]) :: (n, .row 101 0 0 [.pointer (some ⟨bm, 0, some 0⟩)]) :: (Mx ++ (defds D ++ ((n + 1, .row 97 0 0 (bools ts)) :: M)))) (by classical exact List.perm_iff_count.2 (fun a => by simp only [defds, List.map_cons, List.map_nil, List.count_append, List.count_cons, List.count_nil, List.cons_append, List.nil_append, List.append_nil]; omega))) (.cons _ (.cons _ (List.sublist_append_right _ _))) (List.Perm.refl _) fun H5 hH5 => ⟨n + 1, nn, ts, rfl, hn, hH5, hR0.len, hR0.done⟩
end Go.Proofs.Ytmogipomnjihcaa.Eb

namespace Go.Proofs.Ytmogipomnjihcaa.Eb
open Go Go.Abs Go.Low
set_option linter.unusedVariables false
set_option linter.unusedSimpArgs false
attribute [local irreducible] gOK WS WC WR WD Ends FS YS OpV seqK blockK loopK midK retK rdK asgK rangeEnd sat Cell

theorem fill37 {k : Nat} (h : k < 37) : (List.replicate k (37 : Int) ++ List.replicate (37 - k) 0).set k 37 = List.replicate (k + 1) 37 ++ List.replicate (37 - (k + 1)) 0 := by
  rw [List.set_append_right _ _ (by simp)]
  simp only [List.length_replicate, Nat.sub_self]
  rw [show 37 - k = (37 - (k + 1)) + 1 by omega, List.replicate_succ (n := 37 - (k + 1)), List.set_cons_zero, List.replicate_succ', List.append_assoc]
  rfl

structure TS where
  b : List Int
  w : List Nat
  v : Value
  Mx : HL
  D : List Nat
  bw : Nat
  n : Nat

set_option maxHeartbeats 1000000 in
theorem steps_fs {M : HL} {n : Nat} {H : Heap} (hH : hasH M n H) {bg c r : Nat} {hs : List Int} {h : Int} (hm : (bg, .row 99 0 0 (gcells c r hs)) ∈ M) (hh : HS c r hs) (hc6 : c ≤ 6) :
    FS C 73 [.pointer (some ⟨bg, 0, some 0⟩), .int .i64 h] H (fun v H' => ∃ b n', v = .agg ((b.map (Value.int .i64)).toArray) ∧ n ≤ n' ∧ hasH M n' H' ∧ Dist c r hs h b) := by
  have h36 := hh.r36
  refine FS.intro (pf := pf73) rfl rfl rfl ?_
  repeat' (first | refine zA ?_ | (refine zM ?_; intro _ _) | (apply Ws <;> intro hg))
  refine WC.loop (fun k : Nat => [(2, .pointer (some ⟨n, 0, some 0⟩)), (3, .pointer (some ⟨n + 1, 0, some 0⟩)), (4, .pointer (some ⟨n + 1 + 1, 0, some 0⟩)), (5, .pointer (some ⟨n + 1 + 1 + 1, 0, some 0⟩)), (10, .int .i64 (k : Int))]) (fun _ => [])
    (fun k H => k ≤ 37 ∧ hasH ((n + 1 + 1 + 1, .row 86 0 0 (ints (List.replicate k 37 ++ List.replicate (37 - k) 0))) :: (n + 1 + 1, .row 86 0 0 (List.replicate 37 (.int .i64 0))) :: (n + 1, .row 3 0 0 [.int .i64 h]) :: (n, .row 82 0 0 [.pointer (some ⟨bg, 0, some 0⟩)]) :: M) (n + 1 + 1 + 1 + 1) H)
    (fun k => 37 - k) 0 (by repeat' (first | exact .nil | refine .cons rfl ?_)) rfl ⟨Nat.zero_le _, by assumption⟩ ?_
  rintro k H1 ⟨hk, hH1⟩
  repeat' (first | refine zA ?_ | (refine zM ?_; intro _ _) | (apply Ws <;> intro hg))
  refine WC.condP rfl (fun hlt => ?_) (fun hlt => ?_)
  · have hk' : k < 37 := by omega
    repeat' (first | refine zA ?_ | (refine zM ?_; intro _ _) | (apply Ws <;> intro hg))
    refine WR.storeI (by first | exact gN | exact gS rfl) hH1 rfl rfl (by first | exact .here | exact .there .here | exact .there (.there .here) | exact .there (.there (.there .here)) | exact .there (.there (.there (.there .here))) | exact .there (.there (.there (.there (.there .here))))) (by simp; omega) fun H2 hH2 => ?_
    rw [fill37 hk'] at hH2
    repeat' (first | refine zA ?_ | (refine zM ?_; intro _ _) | (apply Ws <;> intro hg))
    exact Ends.loop (k + 1) (by omega) (by repeat' (first | exact .nil | refine .cons rfl ?_)) rfl ⟨hk', hH2⟩
  have hk37 : k = 37 := by omega
  subst hk37
  repeat' (first | refine zA ?_ | (refine zM ?_; intro _ _) | (apply Ws <;> intro hg))
  refine WR.storeI (by first | exact gN | exact gS rfl) hH1 rfl rfl (by first | exact .here | exact .there .here | exact .there (.there .here) | exact .there (.there (.there .here)) | exact .there (.there (.there (.there .here))) | exact .there (.there (.there (.there (.there .here))))) (by simp; omega) fun H2 hH2 => ?_
  rw [show (List.replicate 37 (37 : Int) ++ List.replicate (37 - 37) 0) = List.replicate 37 37 from rfl] at hH2
  have hinit := BS.init (c := c) (r := r) (hs := hs) (h := h) (by omega)
  generalize (List.replicate 37 (37 : Int)).set r 0 = b0 at hH2 hinit
  replace hH2 : hasH ((n + 1 + 1 + 1, .row 86 0 0 (ints b0)) :: (n + 1 + 1, .row 86 0 0 (List.replicate 37 (.int .i64 0))) :: (n + 1, .row 3 0 0 [.int .i64 h]) :: (n, .row 82 0 0 [.pointer (some ⟨bg, 0, some 0⟩)]) :: M) (n + 1 + 1 + 1 + 1) H2 := hH2
  clear hH1 hlt hk
  repeat' (first | refine zA ?_ | (refine zM ?_; intro _ _) | (apply Ws <;> intro hg))
  refine WR.bldS (by first | exact gN | exact gS rfl) rfl hH2 (vs := [(0, .int .i64 (r : Int))]) rfl (cs := [.int .i64 (r : Int)]) (by rfl) rfl fun H3 hH3 => ?_
  have hH4 := hH3.asInp .here
  clear hH3 hH2
  repeat' (first | refine zA ?_ | (refine zM ?_; intro _ _) | (apply Ws <;> intro hg))
  rename_i hb
  have hb0l := hinit.len
  have hb0 := offsI_le (b0.take (r + 1))
  refine WC.loop (fun a : TS => [(2, .pointer (some ⟨n, 0, some 0⟩)), (3, .pointer (some ⟨n + 1, 0, some 0⟩)), (4, .pointer (some ⟨n + 1 + 1, 0, some 0⟩)), (5, .pointer (some ⟨n + 1 + 1 + 1, 0, some 0⟩)), (7, .pointer (some ⟨a.bw, 0, some 0⟩))]) (fun a => a.D)
    (fun a H => hasH ((a.bw, .row 22 0 0 [a.v]) :: (n + 1 + 1 + 1, .row 86 0 0 (ints a.b)) :: (n + 1 + 1, .row 86 0 0 (List.replicate 37 (.int .i64 0))) :: (n + 1, .row 3 0 0 [.int .i64 h]) :: (n, .row 82 0 0 [.pointer (some ⟨bg, 0, some 0⟩)]) :: (a.Mx ++ (defds a.D ++ M))) a.n H ∧
      Own 3 1 a.v (nodes a.w) a.Mx ∧ (∃ x, BS c r hs h x [] a.b a.w) ∧ measI r a.b a.w ≤ 200 ∧ n ≤ a.n) (fun a => measI r a.b a.w)
    ⟨b0, [r], .slice (some ⟨n + 1 + 1 + 1 + 1, 0, some 0⟩) 1 (2 * 1 + 1), [(n + 1 + 1 + 1 + 1, .inp 3 0 0 [.int .i64 (r : Int)])], [], n + 1 + 1 + 1 + 1 + 1, n + 1 + 1 + 1 + 1 + 1 + 1⟩ (by repeat' (first | exact .nil | refine .cons rfl ?_)) rfl
    ⟨hb.perm (by classical exact List.perm_iff_count.2 (fun a => by simp only [defds, List.map_cons, List.map_nil, List.count_append, List.count_cons, List.count_nil, List.cons_append, List.nil_append, List.append_nil]; omega)), .full rfl rfl, ⟨r, hinit⟩, by simp only [measI, List.length_cons, List.length_nil]; rw [List.length_take] at hb0; omega, by simp only; omega⟩ ?_
  clear hb hinit hH4 hb0 hb0l
  rintro ⟨b, w, v, Mx, D, bw, nn⟩ H4 ⟨hH4, hO, ⟨x', hR0⟩, hms, hn⟩
  simp only at hH4 hO hR0 hms hn
  dsimp only
  have hSl := hO.sl (defds D ++ M)
  have hSl2 : Sl ((bw, .row 22 0 0 [v]) :: (n + 1 + 1 + 1, .row 86 0 0 (ints b)) :: (n + 1 + 1, .row 86 0 0 (List.replicate 37 (.int .i64 0))) :: (n + 1, .row 3 0 0 [.int .i64 h]) :: (n, .row 82 0 0 [.pointer (some ⟨bg, 0, some 0⟩)]) :: (Mx ++ (defds D ++ M))) 1 v (nodes w) := hSl.cons.cons.cons.cons.cons
  have hv1 := hSl.one_
  repeat' (first | refine zA ?_ | (refine zM ?_; intro _ _) | (apply Ws <;> intro hg))
  refine WR.op (by first | exact gN | exact gS rfl) rfl (OpV.lenS rfl hSl) ?_
  repeat' (first | refine zA ?_ | (refine zM ?_; intro _ _) | (apply Ws <;> intro hg))
  refine WC.condP rfl (fun hlt => ?_) (fun hlt => ?_)
  · cases w with
    | nil => exact absurd hlt (by simp)
    | cons x w0 =>
    obtain ⟨hx, hxb⟩ := hR0.wk x (by simp)
    repeat' (first | refine zA ?_ | (refine zM ?_; intro _ _) | (apply Ws <;> intro hg))
    refine WR.idxSl (by first | exact gN | exact gS rfl) rfl rfl hSl2 rfl (m := 0) rfl (c := .int .i64 (x : Int)) rfl fun b' o' u' hc => ?_
    repeat' (first | refine zA ?_ | (refine zM ?_; intro _ _) | (apply Ws <;> intro hg))
    have hmem : (bg, Ch.row 99 0 0 (gcells c r hs)) ∈ Mx ++ (defds D ++ M) := by simp [hm]
    refine WR.call (by first | exact gN | exact gS rfl) rfl rfl (neighbours_fs (by assumption) (hs := hs) (r := r) (c := c) (by first | assumption | exact .head _ | exact .tail _ (.head _) | exact .tail _ (.tail _ (.head _)) | exact .tail _ (.tail _ (.tail _ (.head _))) | exact .tail _ (.tail _ (.tail _ (.tail _ (.head _)))) | exact .tail _ (.tail _ (.tail _ (.tail _ (.tail _ (.head _))))) | exact .tail _ (.tail _ (.tail _ (.tail _ (.tail _ (.tail _ (.head _)))))) | (repeat' (first | assumption | apply List.mem_cons_of_mem))) ⟨hh.c1, hc6⟩ hh.cr hx h36) ?_
    rintro _ H5 ⟨g, va, vb, Mn, n5, rfl, hn5, hH5, hit⟩
    repeat' (first | refine zA ?_ | (refine zM ?_; intro _ _) | (apply Ws <;> intro hg))
    refine WC.range0 rfl hH5 fun t ht H6 hH6 => ?_
    generalize hR : ({ state := .ready, pending := none, fn := 73, tmps := t, params := [37], assign := _, body := _, nt := _ } : LoopE) = R at hH6
    generalize hmm0 : measI r b (x :: w0) = mm at hms
    have h0 := hit (n5 + 1) (fun zs H => ∃ b w v Mx nn' zr, hasH ((n5 + 1, .loop R) :: (nn, .row 3 0 0 [.int .i64 (x : Int)]) :: (bw, .row 22 0 0 [v]) :: (n + 1 + 1 + 1, .row 86 0 0 (ints b)) :: (n + 1 + 1, .row 86 0 0 (List.replicate 37 (.int .i64 0))) :: (n + 1, .row 3 0 0 [.int .i64 h]) :: (n, .row 82 0 0 [.pointer (some ⟨bg, 0, some 0⟩)]) :: (Mx ++ (Mn ++ ((n5, .defd false) :: (defds D ++ M))))) nn' H ∧
      Own 3 1 v (nodes (x :: w)) Mx ∧ BS c r hs h x zr b w ∧ b.getD x 0 ≠ 37 ∧ zs = nodes zr ∧ measI r b (x :: w) ≤ mm ∧ n ≤ nn' ∧ (∀ z ∈ zr, z ∈ nbrs c r x)) (fun _ => False) ?_ ?_ H6
      ⟨b, w0, v, Mx, n5 + 2, nbrs c r x, hH6.perm (by classical exact List.perm_iff_count.2 (fun a => by simp only [defds, List.map_cons, List.map_nil, List.count_append, List.count_cons, List.count_nil, List.cons_append, List.nil_append, List.append_nil]; omega)), hO, hR0.enter, hxb, rfl, Nat.le_of_eq hmm0, by omega, fun z hz => hz⟩
    · refine FS.mono h0 ?_
      rintro _ H7 (⟨b2, w, v, Mx, nn', zr, hH7, hO, hR2, hxt, hzs, hms2, hnn, _⟩ | hf)
      · have hzn : zr = [] := by
          cases zr with
          | nil => rfl
          | cons => cases hzs
        subst hzn
        refine rangeEnd_of hH7 .here (by rw [← hR]; simp) (by rw [← hR]; rfl) fun H8 hH8 => ?_
        repeat' (first | refine zA ?_ | (refine zM ?_; intro _ _) | (apply Ws <;> intro hg))
        have hv1 := (hO.sl M).one_
        repeat' (first | refine zA ?_ | (refine zM ?_; intro _ _) | (apply Ws <;> intro hg))
        rename_i hq
        refine WR.slOwnF [_, _, _, _, _, _, _, _] Mx _ (by first | exact gN | exact gS rfl) rfl rfl hO hq rfl (a := 1) (by simp) (Nat.le_refl _) (Nat.le_refl _) fun v2 Mx2 hO2 hH9 => ?_
        simp only [List.cons_append, List.nil_append] at hH9
        have hv2 := (hO2.sl M).one_
        repeat' (first | refine zA ?_ | (refine zM ?_; intro _ _) | (apply Ws <;> intro hg))
        rename_i hq2
        refine Ends.loop ⟨b2, w, v2, Mx2, n5 :: D, nn', nn' + 1⟩ (by simp only [measI, List.length_cons] at hms2 hmm0 ⊢; omega) (by repeat' (first | exact .nil | refine .cons rfl ?_)) rfl ⟨?_, hO2, ⟨x, hR2⟩, by simp only [measI, List.length_cons] at hms2 hms ⊢; omega, by simp only; omega⟩
        exact hq2.sub (.cons_cons _ (.cons _ (.cons _ (.cons _ (.cons_cons _ (.cons_cons _ (.cons_cons _ (.cons_cons _ (.append (.refl _) (List.sublist_append_right _ _))))))))))
      · exact hf.elim
    · rintro zs H ⟨b2, w, v, Mx, nn', zr, hH7, _⟩
      exact ⟨_, _, hH7, fun q hq => by simp [hq], by simp [hm]⟩
    · rintro z zs H ⟨b2, w, v, Mx, nn', zr, hH7, hO, hR2, hxt, hzs, hms2, hnn, hzn⟩
      cases zr with
      | nil => cases hzs
      | cons y zr =>
      obtain ⟨rfl, rfl⟩ : z = .int .i64 (y : Int) ∧ zs = nodes zr := by simpa using hzs
      have hyn := hzn y (by simp)
      have hyr := nbrs_le hh.c1 hh.cr hx hyn
      have hbl := hR2.len
      refine YS.intro hH7 (.head _) (by rw [← hR]) (by rw [← hR]) (by rw [← hR]; rfl) (by rw [← hR]; exact ht) ?_
      subst hR
      dsimp only
      repeat' (first | refine zA ?_ | (refine zM ?_; intro _ _) | (apply Ws <;> intro hg))
      refine Ends.asg hH7 .here fun H8 hH8 => ?_
      dsimp only
      repeat' (first | refine zA ?_ | (refine zM ?_; intro _ _) | (apply Ws <;> intro hg))
      have hmem2 : (bg, Ch.row 99 0 0 (gcells c r hs)) ∈ Mx ++ (Mn ++ ((n5, .defd false) :: (defds D ++ M))) := by simp [hm]
      refine WR.op (by first | exact gN | exact gS rfl) rfl (loadG rfl hH8 (by first | assumption | exact .head _ | exact .tail _ (.head _) | exact .tail _ (.tail _ (.head _)) | exact .tail _ (.tail _ (.tail _ (.head _))) | exact .tail _ (.tail _ (.tail _ (.tail _ (.head _)))) | exact .tail _ (.tail _ (.tail _ (.tail _ (.tail _ (.head _))))) | exact .tail _ (.tail _ (.tail _ (.tail _ (.tail _ (.tail _ (.head _)))))) | (repeat' (first | assumption | apply List.mem_cons_of_mem))) (by rw [hh.len]; omega)) ?_
      repeat' (first | refine zA ?_ | (refine zM ?_; intro _ _) | (apply Ws <;> intro hg))
      · have hle : hs.getD y 0 ≤ h := hg
        refine WR.op (by first | exact gN | exact gS rfl) rfl (OpV.loadI rfl hH8 (by first | assumption | exact .head _ | exact .tail _ (.head _) | exact .tail _ (.tail _ (.head _)) | exact .tail _ (.tail _ (.tail _ (.head _))) | exact .tail _ (.tail _ (.tail _ (.tail _ (.head _)))) | exact .tail _ (.tail _ (.tail _ (.tail _ (.tail _ (.head _))))) | exact .tail _ (.tail _ (.tail _ (.tail _ (.tail _ (.tail _ (.head _)))))) | (repeat' (first | assumption | apply List.mem_cons_of_mem))) (by omega)) ?_
        repeat' (first | refine zA ?_ | (refine zM ?_; intro _ _) | (apply Ws <;> intro hg))
        refine WC.condP rfl (fun h37 => ?_) (fun h37 => ?_)
        · obtain ⟨p1, p2, p3⟩ := hR2.push h36 hx hxt hyn hyr hle h37
          have hxr := hR2.rng x (by omega)
          have hx0 : 0 ≤ b2.getD x 0 := by rcases hxr with h1 | ⟨k, h1, _⟩ <;> omega
          have hsl : (nodes (x :: w)).length + 1 ≤ 100000 := by
            simp only [measI, List.length_cons] at hms2
            simp only [List.length_map, List.length_cons]
            omega
          repeat' (first | refine zA ?_ | (refine zM ?_; intro _ _) | (apply Ws <;> intro hg))
          refine WR.op (by first | exact gN | exact gS rfl) rfl (OpV.loadI rfl hH8 (by first | assumption | exact .head _ | exact .tail _ (.head _) | exact .tail _ (.tail _ (.head _)) | exact .tail _ (.tail _ (.tail _ (.head _))) | exact .tail _ (.tail _ (.tail _ (.tail _ (.head _)))) | exact .tail _ (.tail _ (.tail _ (.tail _ (.tail _ (.head _))))) | exact .tail _ (.tail _ (.tail _ (.tail _ (.tail _ (.tail _ (.head _)))))) | (repeat' (first | assumption | apply List.mem_cons_of_mem))) (by omega)) ?_
          repeat' (first | refine zA ?_ | (refine zM ?_; intro _ _) | (apply Ws <;> intro hg))
          refine WR.storeI (by first | exact gN | exact gS rfl) hH8 rfl rfl (by first | exact .here | exact .there .here | exact .there (.there .here) | exact .there (.there (.there .here)) | exact .there (.there (.there (.there .here))) | exact .there (.there (.there (.there (.there .here))))) (by omega) fun H9 hH9 => ?_
          repeat' (first | refine zA ?_ | (refine zM ?_; intro _ _) | (apply Ws <;> intro hg))
          refine WR.append1F [_, _, _, _, _, _, _] Mx _ rfl rfl rfl rfl hO hH9 (new := [.int .i64 (y : Int)]) (by rfl) rfl rfl (Nat.le_refl _) (by omega) hsl fun v2 Mx2 n9 H10 hO2 hH10 hn10 => ?_
          simp only [List.cons_append, List.nil_append] at hH10
          have hv2 := (hO2.sl M).one_
          repeat' (first | refine zA ?_ | (refine zM ?_; intro _ _) | (apply Ws <;> intro hg))
          rename_i hq
          refine Ends.rd rfl rfl rfl hq .here fun H' h' => .inl ⟨rfl, _, w ++ [y], v2, Mx2, n9, zr, h', by simpa using hO2, p2, ?_, rfl, ?_, by omega, fun z hz => hzn z (by simp [hz])⟩
          · rw [getD_set (by omega)]; split <;> omega
          · simp only [measI, List.length_cons, List.length_append, List.length_nil] at hms2 p3 ⊢; omega
        · repeat' (first | refine zA ?_ | (refine zM ?_; intro _ _) | (apply Ws <;> intro hg))
          exact Ends.rd rfl rfl rfl hH8 .here fun H' h' => .inl ⟨rfl, b2, w, v, Mx, nn', zr, h', hO, hR2.skip hyr (fun _ => h37), hxt, rfl, hms2, hnn, fun z hz => hzn z (by simp [hz])⟩
      · have hle : ¬ hs.getD y 0 ≤ h := hg
        repeat' (first | refine zA ?_ | (refine zM ?_; intro _ _) | (apply Ws <;> intro hg))
        exact Ends.rd rfl rfl rfl hH8 .here fun H' h' => .inl ⟨rfl, b2, w, v, Mx, nn', zr, h', hO, hR2.skip hyr (fun h2 => absurd h2 hle), hxt, rfl, hms2, hnn, fun z hz => hzn z (by simp [hz])⟩
  · have hw : w = [] := by
      cases w with
      | nil => rfl
      | cons x w0 => exact absurd (by simp : (0 : Int) < ((nodes (x :: w0)).length : Int)) hlt
    subst hw
    have hbl : b.length = 37 := hR0.len
    repeat' (first | refine zA ?_ | (refine zM ?_; intro _ _) | (apply Ws <;> intro hg))
    refine WR.op (by first | exact gN | exact gS rfl) rfl (OpV.loadAll rfl hH4 (by first | assumption | exact .head _ | exact .tail _ (.head _) | exact .tail _ (.tail _ (.head _)) | exact .tail _ (.tail _ (.tail _ (.head _))) | exact .tail _ (.tail _ (.tail _ (.tail _ (.head _)))) | exact .tail _ (.tail _ (.tail _ (.tail _ (.tail _ (.head _))))) | exact .tail _ (.tail _ (.tail _ (.tail _ (.tail _ (.tail _ (.head _)))))) | (repeat' (first | assumption | apply List.mem_cons_of_mem))) (.row _ _ _ _) (by simpa using hbl)) ?_
    refine WR.storeAll (by first | exact gN | exact gS rfl) hH4 rfl rfl (ls := ints b) (by simp [Value.cells]) (by simpa using hbl) (by first | exact .here | exact .there .here | exact .there (.there .here) | exact .there (.there (.there .here)) | exact .there (.there (.there (.there .here))) | exact .there (.there (.there (.there (.there .here))))) (ints_one _) (by simpa using hbl) fun H5 hH5 => ?_
    repeat' (first | refine zA ?_ | (refine zM ?_; intro _ _) | (apply Ws <;> intro hg))
    refine Ends.retCND (M0 := (n + 1 + 1, .row 86 0 0 (ints b)) :: (bw, .row 22 0 0 [v]) :: (n + 1 + 1 + 1, .row 86 0 0 (ints b)) :: (n + 1, .row 3 0 0 [.int .i64 h]) :: (n, .row 82 0 0 [.pointer (some ⟨bg, 0, some 0⟩)]) :: (Mx ++ M)) rfl hH5 (.refl _) (by classical exact List.perm_iff_count.2 (fun a => by simp only [defds, List.map_cons, List.map_nil, List.count_append, List.count_cons, List.count_nil, List.cons_append, List.nil_append, List.append_nil]; omega)) fun H6 hH6 => ⟨ints b, ?_, b, nn, rfl, hn, ?_, hR0.done⟩
    · have := hH6.readN (b := n + 1 + 1) (u := 0) (lo := 0) (o := 0) (k := 37) (.head _) (.row _ _ _ _) (Nat.le_refl _) (by simp; omega)
      rw [this, Nat.sub_self, List.drop_zero, List.take_of_length_le (by simp; omega)]
    · exact hH6.sub (.cons _ (.cons _ (.cons _ (.cons _ (.cons _ (List.sublist_append_right _ _))))))
end Go.Proofs.Ytmogipomnjihcaa.Eb

namespace Go.Proofs.Ytmogipomnjihcaa.Eb
open Go Go.Abs Go.Low
set_option linter.unusedVariables false
set_option linter.unusedSimpArgs false
attribute [local irreducible] gOK WS WC WR WD Ends FS YS OpV seqK blockK loopK midK retK rdK asgK rangeEnd sat Cell

/-- The first neighbour that is nearer. -/
def nextN (c r : Nat) (b : List Int) (p : Nat) : Nat := ((nbrs c r p).find? (fun y => decide (b.getD y 0 < b.getD p 0))).getD r

theorem find_split {P : Nat → Bool} {y : Nat} {zr : List Nat} : ∀ {dn : List Nat}, (∀ x ∈ dn, P x = false) → P y = true → (dn ++ y :: zr).find? P = some y
  | [], _, h => by simp [h]
  | a :: l, h1, h2 => by
    rw [List.cons_append, List.find?_cons, h1 a (by simp)]
    exact find_split (fun x hx => h1 x (by simp [hx])) h2
theorem find_none {P : Nat → Bool} {l : List Nat} (h : ∀ x ∈ l, P x = false) : l.find? P = none := by
  rw [List.find?_eq_none]; intro x hx; rw [h x hx]; simp

theorem nearer_fs {M : HL} {n : Nat} {H : Heap} (hH : hasH M n H) {bg bs c r p : Nat} {hs b : List Int} (hm : (bg, .row 99 0 0 (gcells c r hs)) ∈ M) (hbm : (bs, .row 86 0 0 (ints b)) ∈ M) (hbl : b.length = 37) (hh : HS c r hs) (hc6 : c ≤ 6) (hp : p ≤ r) :
    FS C 74 [.pointer (some ⟨bg, 0, some 0⟩), .int .i64 (p : Int), .pointer (some ⟨bs, 0, some 0⟩)] H (fun v H' => v = .int .i64 (nextN c r b p : Int) ∧ ∃ n', n ≤ n' ∧ hasH M n' H') := by
  have h36 := hh.r36
  refine FS.intro (pf := pf74) rfl rfl rfl ?_
  repeat' (first | refine zA ?_ | (refine zM ?_; intro _ _) | (apply Ws <;> intro hg))
  rename_i H1 hH1
  refine WR.call (by first | exact gN | exact gS rfl) rfl rfl (neighbours_fs hH1 (hs := hs) (r := r) (c := c) (by simp [hm]) ⟨hh.c1, hc6⟩ hh.cr hp h36) ?_
  rintro _ H5 ⟨g, va, vb, Mn, n5, rfl, hn5, hH5, hit⟩
  repeat' (first | refine zA ?_ | (refine zM ?_; intro _ _) | (apply Ws <;> intro hg))
  refine WC.range0 rfl hH5 fun t ht H6 hH6 => ?_
  generalize hR : ({ state := .ready, pending := none, fn := 74, tmps := t, params := [11], assign := _, body := _, nt := _ } : LoopE) = R at hH6
  have h0 := hit (n5 + 1) (fun zs H => ∃ dn zr, nbrs c r p = dn ++ zr ∧ zs = nodes zr ∧ (∀ y ∈ dn, decide (b.getD y 0 < b.getD p 0) = false) ∧
      hasH ((n5 + 1, .loop R) :: (n + 1 + 1, .row 3 0 0 [.int .i64 0]) :: (n + 1, .row 89 0 0 [.pointer (some ⟨bs, 0, some 0⟩)]) :: (n, .row 3 0 0 [.int .i64 (p : Int)]) :: (Mn ++ ((n5, .defd false) :: M))) (n5 + 2) H)
    (fun H => ∃ dn y zr, nbrs c r p = dn ++ y :: zr ∧ (∀ y ∈ dn, decide (b.getD y 0 < b.getD p 0) = false) ∧ b.getD y 0 < b.getD p 0 ∧
      hasH ((n5 + 1, .loop { R with state := .done, pending := some .ret }) :: (n + 1 + 1, .row 3 0 0 [.int .i64 (y : Int)]) :: (n + 1, .row 89 0 0 [.pointer (some ⟨bs, 0, some 0⟩)]) :: (n, .row 3 0 0 [.int .i64 (p : Int)]) :: (Mn ++ ((n5, .defd false) :: M))) (n5 + 2) H) ?_ ?_ H6
    ⟨[], nbrs c r p, rfl, rfl, List.forall_mem_nil _, hH6.perm (by classical exact List.perm_iff_count.2 (fun a => by simp only [defds, List.map_cons, List.map_nil, List.count_append, List.count_cons, List.count_nil, List.cons_append, List.nil_append, List.append_nil]; omega))⟩
  · refine FS.mono h0 ?_
    rintro _ H7 (⟨dn, zr, hdz, hzs, hdn, hH7⟩ | ⟨dn, y, zr, hdz, hdn, hlt, hH7⟩)
    · have hzn : zr = [] := by
        cases zr with
        | nil => rfl
        | cons => cases hzs
      subst hzn
      have hnx : nextN c r b p = r := by rw [nextN, hdz, List.append_nil, find_none hdn]; rfl
      refine rangeEnd_of hH7 .here (by rw [← hR]; simp) (by rw [← hR]; rfl) fun H8 hH8 => ?_
      have hmem : (bg, Ch.row 99 0 0 (gcells c r hs)) ∈ Mn ++ ((n5, .defd false) :: M) := by simp [hm]
      repeat' (first | refine zA ?_ | (refine zM ?_; intro _ _) | (apply Ws <;> intro hg))
      rename_i hq
      refine Ends.retC1D (M0 := (n + 1 + 1, .row 3 0 0 [.int .i64 (r : Int)]) :: M) (v := .int .i64 (r : Int)) rfl (hq.tail.perm (M' := ((n + 1, .row 89 0 0 [.pointer (some ⟨bs, 0, some 0⟩)]) :: (n, .row 3 0 0 [.int .i64 (p : Int)]) :: Mn) ++ (defds [n5] ++ (n + 1 + 1, .row 3 0 0 [.int .i64 (r : Int)]) :: M)) (by classical exact List.perm_iff_count.2 (fun a => by simp only [defds, List.map_cons, List.map_nil, List.count_append, List.count_cons, List.count_nil, List.cons_append, List.nil_append, List.append_nil]; omega))) (List.sublist_append_right _ _) (List.Perm.refl _) fun H9 hH9 => ⟨hH9.read (.head _) (.row _ _ _ _) (Nat.zero_le _) rfl, by rw [hnx], _, ?_, hH9.tail⟩
      omega
    · have hnx : nextN c r b p = y := by rw [nextN, hdz, find_split hdn (decide_eq_true hlt)]; rfl
      refine rangeEnd_of hH7 .here (by simp) rfl fun H8 hH8 => ?_
      repeat' (first | refine zA ?_ | (refine zM ?_; intro _ _) | (apply Ws <;> intro hg))
      refine Ends.retC1D (M0 := (n + 1 + 1, .row 3 0 0 [.int .i64 (y : Int)]) :: M) (v := .int .i64 (y : Int)) rfl (hH8.tail.perm (M' := ((n + 1, .row 89 0 0 [.pointer (some ⟨bs, 0, some 0⟩)]) :: (n, .row 3 0 0 [.int .i64 (p : Int)]) :: Mn) ++ (defds [n5] ++ (n + 1 + 1, .row 3 0 0 [.int .i64 (y : Int)]) :: M)) (by classical exact List.perm_iff_count.2 (fun a => by simp only [defds, List.map_cons, List.map_nil, List.count_append, List.count_cons, List.count_nil, List.cons_append, List.nil_append, List.append_nil]; omega))) (List.sublist_append_right _ _) (List.Perm.refl _) fun H9 hH9 => ⟨hH9.read (.head _) (.row _ _ _ _) (Nat.zero_le _) rfl, by rw [hnx], _, ?_, hH9.tail⟩
      omega
  · rintro zs H ⟨dn, zr, hdz, hzs, hdn, hH7⟩
    exact ⟨_, _, hH7, fun q hq => by simp [hq], by simp [hm]⟩
  · rintro z zs H ⟨dn, zr, hdz, hzs, hdn, hH7⟩
    cases zr with
    | nil => cases hzs
    | cons y zr =>
    obtain ⟨rfl, rfl⟩ : z = .int .i64 (y : Int) ∧ zs = nodes zr := by simpa using hzs
    have hyn : y ∈ nbrs c r p := by rw [hdz]; simp
    have hyr := nbrs_le hh.c1 hh.cr hp hyn
    refine YS.intro hH7 (.head _) (by rw [← hR]) (by rw [← hR]) (by rw [← hR]; rfl) (by rw [← hR]; exact ht) ?_
    subst hR
    dsimp only
    repeat' (first | refine zA ?_ | (refine zM ?_; intro _ _) | (apply Ws <;> intro hg))
    refine Ends.asg hH7 .here fun H8 hH8 => ?_
    dsimp only
    repeat' (first | refine zA ?_ | (refine zM ?_; intro _ _) | (apply Ws <;> intro hg))
    refine WR.op (by first | exact gN | exact gS rfl) rfl (OpV.loadI (b := bs) (e := 86) (xs := b) rfl hH8 (by simp [hbm]) (by omega)) ?_
    repeat' (first | refine zA ?_ | (refine zM ?_; intro _ _) | (apply Ws <;> intro hg))
    refine WR.op (by first | exact gN | exact gS rfl) rfl (OpV.loadI (b := bs) (e := 86) (xs := b) rfl hH8 (by simp [hbm]) (by omega)) ?_
    repeat' (first | refine zA ?_ | (refine zM ?_; intro _ _) | (apply Ws <;> intro hg))
    refine WC.condP rfl (fun hlt => ?_) (fun hlt => ?_)
    · repeat' (first | refine zA ?_ | (refine zM ?_; intro _ _) | (apply Ws <;> intro hg))
      rename_i hq
      exact Ends.rd rfl rfl rfl hq .here fun H' h' => .inr ⟨rfl, dn, y, zr, hdz, hdn, hlt, h'⟩
    · repeat' (first | refine zA ?_ | (refine zM ?_; intro _ _) | (apply Ws <;> intro hg))
      exact Ends.rd rfl rfl rfl hH8 .here fun H' h' => .inl ⟨rfl, dn ++ [y], zr, by simp [hdz], rfl, fun y' hy' => by
        rcases List.mem_append.1 hy' with h1 | h1
        · exact hdn y' h1
        · rw [List.mem_singleton.1 h1, decide_eq_false_iff_not]; exact hlt, h'⟩
end Go.Proofs.Ytmogipomnjihcaa.Eb

namespace Go.Proofs.Ytmogipomnjihcaa.Eb
open Go Go.Abs Go.Low
set_option linter.unusedVariables false
set_option linter.unusedSimpArgs false
attribute [local irreducible] gOK WS WC WR WD Ends FS YS OpV seqK blockK loopK midK retK rdK asgK rangeEnd sat Cell

open Classical in
/-- All that can be reached from a place. -/
noncomputable def comp (c r : Nat) (ms : List Bool) (x : Nat) : List Nat := (List.range r).filter fun y => decide (RM c r ms x y)

def First (c r : Nat) (ms : List Bool) (x : Nat) : Prop := ms.getD x false = true ∧ ∀ y, RM c r ms x y → x ≤ y

open Classical in
noncomputable def firsts (c r : Nat) (ms : List Bool) (k : Nat) : List Nat := (List.range k).filter fun x => decide (First c r ms x)

/-- The pools: of each the first place, and what can be reached from it. -/
noncomputable def poolsM (c r : Nat) (ms : List Bool) (k : Nat) : List (List Nat) := (firsts c r ms k).map (comp c r ms)

theorem firsts_succ (c r : Nat) (ms : List Bool) (k : Nat) [Decidable (First c r ms k)] : firsts c r ms (k + 1) = firsts c r ms k ++ if First c r ms k then [k] else [] := by
  rw [firsts, List.range_succ, List.filter_append]
  congr 1
  by_cases h : First c r ms k <;> simp [h]

theorem pools_take {c r : Nat} {ms : List Bool} {k : Nat} (h : First c r ms k) : poolsM c r ms (k + 1) = poolsM c r ms k ++ [comp c r ms k] := by
  rw [poolsM, @firsts_succ c r ms k (isTrue h), if_pos h, List.map_append]; rfl
theorem pools_skip {c r : Nat} {ms : List Bool} {k : Nat} (h : ¬ First c r ms k) : poolsM c r ms (k + 1) = poolsM c r ms k := by
  rw [poolsM, @firsts_succ c r ms k (isFalse h), if_neg h, List.append_nil]; rfl

theorem RM.bot {c r : Nat} {ms : List Bool} {p y : Nat} (h : RM c r ms p y) : ms.getD p false = true := by
  induction h with
  | start h => exact h
  | step _ _ _ ih => exact ih
theorem RM.trans {c r : Nat} {ms : List Bool} {p q y : Nat} (h : RM c r ms p q) (k : RM c r ms q y) : RM c r ms p y := by
  induction k with
  | start _ => exact h
  | step _ hy ht ih => exact .step ih hy ht

open Classical in
theorem mem_comp {c r : Nat} {ms : List Bool} (hK : ∀ y, ms.getD y false = true → y < r) {x y : Nat} : y ∈ comp c r ms x ↔ RM c r ms x y := by
  rw [comp, List.mem_filter, List.mem_range, decide_eq_true_iff]
  exact ⟨fun h => h.2, fun h => ⟨hK _ h.on, h⟩⟩

/-- What is left when the first places have been looked at. -/
def Cur (c r : Nat) (ms : List Bool) (k : Nat) (cur : List Bool) : Prop := ∀ y, cur.getD y false = true ↔ ms.getD y false = true ∧ ∀ x, x < k → ¬ RM c r ms x y

section
variable {c r : Nat} {ms : List Bool} (hc : 1 ≤ c ∧ c ≤ 6) (hcr : c ≤ r) (hK : ∀ y, ms.getD y false = true → y < r)
include hc hcr hK

theorem RM.symm {p y : Nat} (h : RM c r ms p y) : RM c r ms y p := by
  induction h with
  | start h => exact .start h
  | step h hy ht ih => exact RM.trans (.step (.start ht) (nbrs_symm hc hcr (Nat.le_of_lt (hK _ h.on)) hy) h.on) ih

theorem Cur.first {k : Nat} {cur : List Bool} (h : Cur c r ms k cur) : cur.getD k false = true ↔ First c r ms k := by
  rw [h k]
  constructor
  · rintro ⟨h1, h2⟩
    refine ⟨h1, fun y hy => ?_⟩
    rcases Nat.lt_or_ge y k with h3 | h3
    · exact absurd (RM.symm hc hcr hK hy) (h2 y h3)
    · exact h3
  · rintro ⟨h1, h2⟩
    refine ⟨h1, fun x hx hr => ?_⟩
    have := h2 x (RM.symm hc hcr hK hr)
    omega

theorem Cur.reach {k : Nat} {cur : List Bool} (h : Cur c r ms k cur) (hk : cur.getD k false = true) {y : Nat} : RM c r cur k y ↔ RM c r ms k y := by
  constructor
  · intro k
    induction k with
    | start h1 => exact .start ((h _).1 h1).1
    | step _ hy ht ih => exact .step ih hy ((h _).1 ht).1
  · intro j
    induction j with
    | start h1 => exact .start hk
    | step j hy ht ih =>
      refine .step ih hy ((h _).2 ⟨ht, fun x hx hr => ?_⟩)
      exact ((h k).1 hk).2 x hx (hr.trans (RM.symm hc hcr hK (.step j hy ht)))

end

theorem Cur.skip {c r : Nat} {ms : List Bool} {k : Nat} {cur : List Bool} (h : Cur c r ms k cur) (hk : ¬ cur.getD k false = true) : Cur c r ms (k + 1) cur := by
  intro y
  rw [h y]
  refine ⟨fun ⟨h1, h2⟩ => ⟨h1, fun x hx hr => ?_⟩, fun ⟨h1, h2⟩ => ⟨h1, fun x hx => h2 x (by omega)⟩⟩
  rcases Nat.lt_or_ge x k with h3 | h3
  · exact h2 x h3 hr
  · have : x = k := by omega
    subst this
    exact hk ((h x).2 ⟨hr.bot, fun z hz hzr => h2 z hz (hzr.trans hr)⟩)

theorem Cur.take {c r : Nat} {ms : List Bool} (hK : ∀ y, ms.getD y false = true → y < r) {k : Nat} {cur cur' : List Bool} (h : Cur c r ms k cur) (h' : ∀ y, cur'.getD y false = true ↔ cur.getD y false = true ∧ y ∉ comp c r ms k) : Cur c r ms (k + 1) cur' := by
  intro y
  rw [h' y, h y, mem_comp hK]
  refine ⟨fun ⟨⟨h1, h2⟩, h3⟩ => ⟨h1, fun x hx hr => ?_⟩, fun ⟨h1, h2⟩ => ⟨⟨h1, fun x hx => h2 x (by omega)⟩, h2 k (by omega)⟩⟩
  rcases Nat.lt_or_ge x k with h4 | h4
  · exact h2 x h4 hr
  · have : x = k := by omega
    subst this
    exact h3 hr

theorem Cur.init (c r : Nat) (ms : List Bool) : Cur c r ms 0 ms := fun y => ⟨fun h => ⟨h, fun x hx => absurd hx (Nat.not_lt_zero _)⟩, fun h => h.1⟩

theorem marked_filter {ms : List Bool} {f : Nat → Bool} {r : Nat} (hr : r ≤ 37) (h : ∀ p, p < 37 → ms.getD p false = if p < r then f p else false) : marked ms 37 = (List.range r).filter f := by
  have e : List.range 37 = List.range r ++ List.range' r (37 - r) := by
    rw [List.range_eq_range', List.range_eq_range', show (37 : Nat) = r + (37 - r) by omega, ← List.range'_append_1]
    simp
  unfold marked
  rw [e, List.filter_append]
  have h1 : (List.range' r (37 - r)).filter (fun p => ms.getD p false) = [] := by
    rw [List.filter_eq_nil_iff]
    intro p hp
    rw [List.mem_range'_1] at hp
    rw [h p (by omega), if_neg (by omega)]
    simp
  rw [h1, List.append_nil]
  exact List.filter_congr fun p hp => by rw [List.mem_range] at hp; rw [h p (by omega), if_pos hp]

open Classical in
theorem marked_comp {c r : Nat} {ms ts : List Bool} (hr : r ≤ 37) (hK : ∀ y, ms.getD y false = true → y < r) {k : Nat} (h : ∀ y, ts.getD y false = true ↔ RM c r ms k y) : marked ts 37 = comp c r ms k := by
  refine marked_filter hr fun p hp => ?_
  by_cases hpr : p < r
  · rw [if_pos hpr]
    by_cases hm : RM c r ms k p
    · rw [(h p).2 hm, decide_eq_true hm]
    · rw [decide_eq_false hm]
      exact Bool.eq_false_iff.2 fun e => hm ((h p).1 e)
  · rw [if_neg hpr]
    exact Bool.eq_false_iff.2 fun e => hpr (hK p ((h p).1 e).on)

/-- Slices of lists. -/
def Rows2 (M : HL) (vs : List Value) (ls : List (List Nat)) : Prop := vs.length = ls.length ∧ ∀ (i : Nat) (u : Value) (l : List Nat), vs[i]? = some u → ls[i]? = some l → Sl M 1 u (nodes l)

theorem Rows2.mono {M M' : HL} {vs : List Value} {ls : List (List Nat)} (h : Rows2 M vs ls) (k : ∀ p ∈ M, p ∈ M') : Rows2 M' vs ls := ⟨h.1, fun i u l hu hl => (h.2 i u l hu hl).mono k⟩

theorem Rows2.push {M : HL} {vs : List Value} {ls : List (List Nat)} (h : Rows2 M vs ls) {u : Value} {l : List Nat} (k : Sl M 1 u (nodes l)) : Rows2 M (vs ++ [u]) (ls ++ [l]) := by
  refine ⟨by simp [h.1], fun i u' l' hu hl => ?_⟩
  rcases Nat.lt_or_ge i vs.length with h1 | h1
  · rw [List.getElem?_append_left h1] at hu
    rw [List.getElem?_append_left (by rw [← h.1]; exact h1)] at hl
    exact h.2 i u' l' hu hl
  · rw [List.getElem?_append_right h1] at hu
    rw [List.getElem?_append_right (by rw [← h.1]; exact h1), ← h.1] at hl
    have : i - vs.length = 0 := by
      rcases Nat.eq_zero_or_pos (i - vs.length) with h2 | h2
      · exact h2
      · rw [List.getElem?_eq_none (by simp; omega)] at hu; cases hu
    rw [this] at hu hl
    cases hu; cases hl
    exact k
end Go.Proofs.Ytmogipomnjihcaa.Eb
