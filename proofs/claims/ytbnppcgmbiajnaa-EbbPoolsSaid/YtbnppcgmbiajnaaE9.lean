import Derived.Test.YtbnppcgmbiajnaaE8
namespace Go.Proofs.Ytbnppcgmbiajnaa.Eb
open Go Go.Abs Go.Low
set_option linter.unusedVariables false
set_option linter.unusedSimpArgs false
attribute [local irreducible] gOK WS WC WR WD Ends FS YS OpV seqK blockK loopK midK retK rdK asgK rangeEnd sat Cell

theorem u5 : C.c.P.underlying 5 = some (.int .u8) := by kernel_rfl
theorem u3 : C.c.P.underlying 3 = some (.int .i64) := by kernel_rfl

abbrev strand (a b : Int) (hs : List Int) : List Value := .int .u8 a :: .int .u8 b :: hs.map (Value.int .u8)

structure Bytes (a b : Int) (hs : List Int) : Prop where
  a : 0 ≤ a ∧ a ≤ 255
  b : 0 ≤ b ∧ b ≤ 255
  len : hs.length = 36
  hs : ∀ x ∈ hs, 0 ≤ x ∧ x ≤ 255

def side (m a : Int) : Int := 1 + a % m
def heightsOf (m a b : Int) (hs : List Int) : List Int := (hs.take (side m a * side m b).toNat).map (· % 31)

theorem side_le {m a : Int} (hm : 1 ≤ m ∧ m ≤ 6) : 1 ≤ side m a ∧ side m a ≤ 6 := by
  have h1 := Int.emod_nonneg a (show m ≠ 0 by omega)
  have h2 := Int.emod_lt_of_pos a (show 0 < m by omega)
  unfold side
  omega

theorem made_check {m a b : Int} {hs : List Int} (hm : 1 ≤ m ∧ m ≤ 6) (hb : Bytes a b hs) : checkE (side m a) (side m b) (heightsOf m a b hs) = 0 := by
  have h1 := side_le (a := a) hm
  have h2 := side_le (a := b) hm
  have hp := prod_le h1 h2
  have hl := hb.len
  have hlen : ((heightsOf m a b hs).length : Int) = side m a * side m b := by
    simp only [heightsOf, List.length_map, List.length_take]
    omega
  unfold checkE
  rw [if_neg (by omega), if_neg (by omega), if_pos]
  intro x hx
  simp only [heightsOf, List.mem_map] at hx
  obtain ⟨y, _, rfl⟩ := hx
  omega

theorem strand_one (a b : Int) (hs : List Int) : (strand a b hs).all one = true := by simp [strand, one]

set_option maxHeartbeats 400000 in
theorem made_fs {M : HL} {n : Nat} {H : Heap} (hH : hasH M n H) {m a b : Int} {hs : List Int} (hm : 1 ≤ m ∧ m ≤ 6) (hb : Bytes a b hs) :
    FS C 42 [.agg (strand a b hs).toArray, .int .i64 m] H (fun e H' => ∃ v Mx n', e = .agg #[.int .i64 (side m a), .int .i64 (side m b), v] ∧ n ≤ n' ∧ Own 3 1 v (ints (heightsOf m a b hs)) Mx ∧ hasH (Mx ++ M) n' H') := by
  have h1 := side_le (a := a) hm
  have h2 := side_le (a := b) hm
  have hp := prod_le h1 h2
  have hl := hb.len
  have hao := hb.a
  have hbo := hb.b
  have hone := strand_one a b hs
  refine FS.intro (pf := pf42) rfl rfl rfl ?_
  repeat' (first | apply Wa | apply Wb | apply Wc | apply Wd | apply We | apply Wf | refine Wh (by exact rfl) ?_ | apply Wj | apply Wk | apply Wl | apply Wm | apply Wn | apply Wo | apply Wp | refine Wq (by exact rfl) ?_ | apply Wr | apply Wt | apply Wu | apply Wv | refine Wx rfl ?_ | refine Wy rfl ?_ | (apply zw; first | refine o1 rfl ?_ | (apply zf; first | refine o2 rfl ?_ | refine o3 rfl ?_) | (apply za; refine o4 rfl rfl ?_) | (apply ze; refine p4 rfl rfl ?_) | (apply zg; refine p5 rfl rfl ?_) | (apply zm; refine p6 rfl rfl ?_) | (apply zn; first | refine q1 rfl ?_ | refine q2 rfl ?_ | refine p1 rfl ?_ | refine p2 rfl ?_) | (apply zp; first | refine q3 rfl rfl ?_ | refine q4 rfl rfl ?_) | (apply zl; first | refine o5 rfl rfl ?_ | refine p3 rfl ?_) | (apply zk; refine o7 rfl ?_) | (apply zi; refine o8 rfl rfl rfl ?_) | (apply zj; refine o9 rfl rfl rfl ?_) | (apply zc; refine m1 ?_; intro _ _) | (apply zb; first | (refine m2 rfl rfl ?_; intro _ _) | (refine m3 rfl ?_; intro _ _)) | refine Wg rfl rfl ?_ | (apply Ws <;> intro hg)) | (apply zs; refine m4 rfl rfl ?_; intro _ _) | refine Wi rfl ?_ | (apply Ws <;> intro hg))
  rename_i H1 hH1
  refine WC.regionD ?_
  refine WD.op (by first | exact gN | exact gS rfl) rfl (OpV.field0 rfl) rfl (stands_nil _ _) ?_
  refine WD.load1 (by first | exact gN | exact gS rfl) rfl rfl (hH1.read (v := .int .u8 a) (.tail _ (.head _)) (.row _ _ _ _) (Nat.zero_le _) rfl) ?_
  refine WD.op (by first | exact gN | exact gS rfl) rfl (OpV.conv u5 u3 rfl (c := a) (IntWalk.i64_in _ (by omega))) rfl (stands_nil _ _) ?_
  refine WD.op (by first | exact gN | exact gS rfl) rfl (OpV.move rfl) rfl (stands_nil _ _) ?_
  refine WD.op (by first | exact gN | exact gS rfl) rfl (OpV.rem' (c := a % m) rfl rfl rfl (by omega) (by omega)) rfl (stands_nil _ _) ?_
  refine WD.op (by first | exact gN | exact gS rfl) rfl (OpV.add' (c := side m a) rfl rfl rfl (by omega)) rfl (stands_nil _ _) ?_
  refine WD.op (by first | exact gN | exact gS rfl) rfl (OpV.field0 rfl) rfl (stands_nil _ _) ?_
  refine WD.load1 (by first | exact gN | exact gS rfl) rfl rfl (hH1.read (v := .int .u8 b) (.tail _ (.head _)) (.row _ _ _ _) (Nat.zero_le _) rfl) ?_
  refine WD.op (by first | exact gN | exact gS rfl) rfl (OpV.conv u5 u3 rfl (c := b) (IntWalk.i64_in _ (by omega))) rfl (stands_nil _ _) ?_
  refine WD.op (by first | exact gN | exact gS rfl) rfl (OpV.move rfl) rfl (stands_nil _ _) ?_
  refine WD.op (by first | exact gN | exact gS rfl) rfl (OpV.rem' (c := b % m) rfl rfl rfl (by omega) (by omega)) rfl (stands_nil _ _) ?_
  refine WD.op (by first | exact gN | exact gS rfl) rfl (OpV.add' (c := side m b) rfl rfl rfl (by omega)) rfl (stands_nil _ _) ?_
  refine WD.op (by first | exact gN | exact gS rfl) rfl (OpV.bldT (vs := [(0, .int .i64 (side m a)), (1, .int .i64 (side m b))]) rfl (cs := #[.int .i64 (side m a), .int .i64 (side m b), .slice none 0 0]) (by rfl)) rfl (stands_nil _ _) ?_
  refine WD.new rfl hH1 rfl (fun H2 hH2 => ?_) fun H2 hH2 => ?_
  · exact stands_cons (.inr (holds_int (hH2.read (.tail _ (.tail _ (.head _))) (.row _ _ _ _) (Nat.zero_le _) rfl))) (stands_cons (.inr (holds_int (hH2.read (.tail _ (.tail _ (.head _))) (.row _ _ _ _) (Nat.zero_le _) rfl))) stands_nil')
  refine WD.toWR rfl ?_
  refine WR.storeAll (by first | exact gN | exact gS rfl) hH2 rfl rfl (ls := [.int .i64 (side m a), .int .i64 (side m b), .slice none 0 0]) rfl rfl (by repeat' (first | exact .here | apply Upd.there)) rfl (by rfl) fun H3 hH3 => ?_
  repeat' (first | apply Wa | apply Wb | apply Wc | apply Wd | apply We | apply Wf | refine Wh (by exact rfl) ?_ | apply Wj | apply Wk | apply Wl | apply Wm | apply Wn | apply Wo | apply Wp | refine Wq (by exact rfl) ?_ | apply Wr | apply Wt | apply Wu | apply Wv | refine Wx rfl ?_ | refine Wy rfl ?_ | (apply zw; first | refine o1 rfl ?_ | (apply zf; first | refine o2 rfl ?_ | refine o3 rfl ?_) | (apply za; refine o4 rfl rfl ?_) | (apply ze; refine p4 rfl rfl ?_) | (apply zg; refine p5 rfl rfl ?_) | (apply zm; refine p6 rfl rfl ?_) | (apply zn; first | refine q1 rfl ?_ | refine q2 rfl ?_ | refine p1 rfl ?_ | refine p2 rfl ?_) | (apply zp; first | refine q3 rfl rfl ?_ | refine q4 rfl rfl ?_) | (apply zl; first | refine o5 rfl rfl ?_ | refine p3 rfl ?_) | (apply zk; refine o7 rfl ?_) | (apply zi; refine o8 rfl rfl rfl ?_) | (apply zj; refine o9 rfl rfl rfl ?_) | (apply zc; refine m1 ?_; intro _ _) | (apply zb; first | (refine m2 rfl rfl ?_; intro _ _) | (refine m3 rfl ?_; intro _ _)) | refine Wg rfl rfl ?_ | (apply Ws <;> intro hg)) | (apply zs; refine m4 rfl rfl ?_; intro _ _) | refine Wi rfl ?_ | (apply Ws <;> intro hg))
  obtain ⟨q, hq⟩ : ∃ q : Nat, side m a * side m b = q := ⟨(side m a * side m b).toNat, by omega⟩
  have hheights : heightsOf m a b hs = (hs.take q).map (· % 31) := by simp only [heightsOf, hq, Int.toNat_natCast]
  refine WR.op (by first | exact gN | exact gS rfl) rfl (OpV.mul' (c := (q : Int)) rfl rfl hq (by omega)) ?_
  refine WR.op (by first | exact gN | exact gS rfl) rfl (OpV.slAh rfl rfl (by omega) (by decide)) ?_
  repeat' (first | apply Wa | apply Wb | apply Wc | apply Wd | apply We | apply Wf | refine Wh (by exact rfl) ?_ | apply Wj | apply Wk | apply Wl | apply Wm | apply Wn | apply Wo | apply Wp | refine Wq (by exact rfl) ?_ | apply Wr | apply Wt | apply Wu | apply Wv | refine Wx rfl ?_ | refine Wy rfl ?_ | (apply zw; first | refine o1 rfl ?_ | (apply zf; first | refine o2 rfl ?_ | refine o3 rfl ?_) | (apply za; refine o4 rfl rfl ?_) | (apply ze; refine p4 rfl rfl ?_) | (apply zg; refine p5 rfl rfl ?_) | (apply zm; refine p6 rfl rfl ?_) | (apply zn; first | refine q1 rfl ?_ | refine q2 rfl ?_ | refine p1 rfl ?_ | refine p2 rfl ?_) | (apply zp; first | refine q3 rfl rfl ?_ | refine q4 rfl rfl ?_) | (apply zl; first | refine o5 rfl rfl ?_ | refine p3 rfl ?_) | (apply zk; refine o7 rfl ?_) | (apply zi; refine o8 rfl rfl rfl ?_) | (apply zj; refine o9 rfl rfl rfl ?_) | (apply zc; refine m1 ?_; intro _ _) | (apply zb; first | (refine m2 rfl rfl ?_; intro _ _) | (refine m3 rfl ?_; intro _ _)) | refine Wg rfl rfl ?_ | (apply Ws <;> intro hg)) | (apply zs; refine m4 rfl rfl ?_; intro _ _) | refine Wi rfl ?_ | (apply Ws <;> intro hg))
  have hSl : Sl ((n, .row 60 0 0 (strand a b hs)) :: M) 1 (.slice (some ⟨n, 2, some 0⟩) q (2 * 36 + 1)) ((hs.take q).map (Value.int .u8)) :=
    .row (lo := 0) (cs := strand a b hs) (.head _) (.row _ _ _ _) (Nat.zero_le _) (by first | (simp; done) | (simp; omega)) (by first | (simp [strand]; done) | (simp [strand]; omega)) (by first | (simp [strand]; done) | (simp [strand]; omega)) (.inr ⟨36, rfl, by omega⟩)
  refine WC.loop (fun s : LV => [(4, .pointer (some ⟨n + 1, 0, some 0⟩)), (5, .pointer (some ⟨n + 1 + 1, 0, some 0⟩)), (27, .slice (some ⟨n, 2, some 0⟩) q (2 * 36 + 1)), (28, .int .i64 (q : Int)), (29, .int .i64 (s.k : Int))]) (fun _ => [])
    (fun s H => s.k ≤ q ∧ n ≤ s.n ∧ Own 3 1 s.v (ints ((hs.take s.k).map (· % 31))) s.Mx ∧
      hasH ((n + 1 + 1, .row 24 0 0 [.int .i64 (side m a), .int .i64 (side m b), s.v]) :: (n + 1, .row 24 0 0 [.int .i64 0, .int .i64 0, .slice none 0 0]) :: (n, .row 60 0 0 (strand a b hs)) :: (s.Mx ++ M)) s.n H)
    (fun s => q - s.k) ⟨0, .slice none 0 0, [], n + 1 + 1 + 1⟩ (by repeat' (first | exact .nil | refine .cons rfl ?_)) rfl ⟨Nat.zero_le _, by simp only; omega, .nil, hH3⟩ ?_
  clear hH3 hH2 hH1
  rintro ⟨k, v, Mx, n1⟩ H4 ⟨hk, hn, hO, hH4⟩
  simp only at hk hn hO hH4
  dsimp only
  repeat' (first | apply Wa | apply Wb | apply Wc | apply Wd | apply We | apply Wf | refine Wh (by exact rfl) ?_ | apply Wj | apply Wk | apply Wl | apply Wm | apply Wn | apply Wo | apply Wp | refine Wq (by exact rfl) ?_ | apply Wr | apply Wt | apply Wu | apply Wv | refine Wx rfl ?_ | refine Wy rfl ?_ | (apply zw; first | refine o1 rfl ?_ | (apply zf; first | refine o2 rfl ?_ | refine o3 rfl ?_) | (apply za; refine o4 rfl rfl ?_) | (apply ze; refine p4 rfl rfl ?_) | (apply zg; refine p5 rfl rfl ?_) | (apply zm; refine p6 rfl rfl ?_) | (apply zn; first | refine q1 rfl ?_ | refine q2 rfl ?_ | refine p1 rfl ?_ | refine p2 rfl ?_) | (apply zp; first | refine q3 rfl rfl ?_ | refine q4 rfl rfl ?_) | (apply zl; first | refine o5 rfl rfl ?_ | refine p3 rfl ?_) | (apply zk; refine o7 rfl ?_) | (apply zi; refine o8 rfl rfl rfl ?_) | (apply zj; refine o9 rfl rfl rfl ?_) | (apply zc; refine m1 ?_; intro _ _) | (apply zb; first | (refine m2 rfl rfl ?_; intro _ _) | (refine m3 rfl ?_; intro _ _)) | refine Wg rfl rfl ?_ | (apply Ws <;> intro hg)) | (apply zs; refine m4 rfl rfl ?_; intro _ _) | refine Wi rfl ?_ | (apply Ws <;> intro hg))
  refine WC.condP rfl (fun hlt => ?_) (fun hlt => ?_)
  · have hk' : k < q := by omega
    have hkl : k < hs.length := by omega
    have hkb := hb.hs hs[k] (List.getElem_mem hkl)
    have hv1 := (hO.sl M).one_
    have hH4' : hasH ((n, .row 60 0 0 (strand a b hs)) :: M) n1 H4 := hH4.sub (.cons _ (.cons _ (.cons_cons _ (List.sublist_append_right _ _))))
    repeat' (first | apply Wa | apply Wb | apply Wc | apply Wd | apply We | apply Wf | refine Wh (by exact rfl) ?_ | apply Wj | apply Wk | apply Wl | apply Wm | apply Wn | apply Wo | apply Wp | refine Wq (by exact rfl) ?_ | apply Wr | apply Wt | apply Wu | apply Wv | refine Wx rfl ?_ | refine Wy rfl ?_ | (apply zw; first | refine o1 rfl ?_ | (apply zf; first | refine o2 rfl ?_ | refine o3 rfl ?_) | (apply za; refine o4 rfl rfl ?_) | (apply ze; refine p4 rfl rfl ?_) | (apply zg; refine p5 rfl rfl ?_) | (apply zm; refine p6 rfl rfl ?_) | (apply zn; first | refine q1 rfl ?_ | refine q2 rfl ?_ | refine p1 rfl ?_ | refine p2 rfl ?_) | (apply zp; first | refine q3 rfl rfl ?_ | refine q4 rfl rfl ?_) | (apply zl; first | refine o5 rfl rfl ?_ | refine p3 rfl ?_) | (apply zk; refine o7 rfl ?_) | (apply zi; refine o8 rfl rfl rfl ?_) | (apply zj; refine o9 rfl rfl rfl ?_) | (apply zc; refine m1 ?_; intro _ _) | (apply zb; first | (refine m2 rfl rfl ?_; intro _ _) | (refine m3 rfl ?_; intro _ _)) | refine Wg rfl rfl ?_ | (apply Ws <;> intro hg)) | (apply zs; refine m4 rfl rfl ?_; intro _ _) | refine Wi rfl ?_ | (apply Ws <;> intro hg))
    refine WR.op (by first | exact gN | exact gS rfl) rfl (OpV.load1 (v := .int .u8 hs[k]) rfl hH4' (.head _) (.row _ _ _ _) (Nat.zero_le _) (by rw [show 2 + k - 0 = k + 2 by omega]; simp [strand, hkl])) ?_
    repeat' (first | apply Wa | apply Wb | apply Wc | apply Wd | apply We | apply Wf | refine Wh (by exact rfl) ?_ | apply Wj | apply Wk | apply Wl | apply Wm | apply Wn | apply Wo | apply Wp | refine Wq (by exact rfl) ?_ | apply Wr | apply Wt | apply Wu | apply Wv | refine Wx rfl ?_ | refine Wy rfl ?_ | (apply zw; first | refine o1 rfl ?_ | (apply zf; first | refine o2 rfl ?_ | refine o3 rfl ?_) | (apply za; refine o4 rfl rfl ?_) | (apply ze; refine p4 rfl rfl ?_) | (apply zg; refine p5 rfl rfl ?_) | (apply zm; refine p6 rfl rfl ?_) | (apply zn; first | refine q1 rfl ?_ | refine q2 rfl ?_ | refine p1 rfl ?_ | refine p2 rfl ?_) | (apply zp; first | refine q3 rfl rfl ?_ | refine q4 rfl rfl ?_) | (apply zl; first | refine o5 rfl rfl ?_ | refine p3 rfl ?_) | (apply zk; refine o7 rfl ?_) | (apply zi; refine o8 rfl rfl rfl ?_) | (apply zj; refine o9 rfl rfl rfl ?_) | (apply zc; refine m1 ?_; intro _ _) | (apply zb; first | (refine m2 rfl rfl ?_; intro _ _) | (refine m3 rfl ?_; intro _ _)) | refine Wg rfl rfl ?_ | (apply Ws <;> intro hg)) | (apply zs; refine m4 rfl rfl ?_; intro _ _) | refine Wi rfl ?_ | (apply Ws <;> intro hg))
    refine WR.op (by first | exact gN | exact gS rfl) rfl (OpV.load1 rfl hH4 (.head _) (.row _ _ _ _) (Nat.zero_le _) rfl) ?_
    repeat' (first | apply Wa | apply Wb | apply Wc | apply Wd | apply We | apply Wf | refine Wh (by exact rfl) ?_ | apply Wj | apply Wk | apply Wl | apply Wm | apply Wn | apply Wo | apply Wp | refine Wq (by exact rfl) ?_ | apply Wr | apply Wt | apply Wu | apply Wv | refine Wx rfl ?_ | refine Wy rfl ?_ | (apply zw; first | refine o1 rfl ?_ | (apply zf; first | refine o2 rfl ?_ | refine o3 rfl ?_) | (apply za; refine o4 rfl rfl ?_) | (apply ze; refine p4 rfl rfl ?_) | (apply zg; refine p5 rfl rfl ?_) | (apply zm; refine p6 rfl rfl ?_) | (apply zn; first | refine q1 rfl ?_ | refine q2 rfl ?_ | refine p1 rfl ?_ | refine p2 rfl ?_) | (apply zp; first | refine q3 rfl rfl ?_ | refine q4 rfl rfl ?_) | (apply zl; first | refine o5 rfl rfl ?_ | refine p3 rfl ?_) | (apply zk; refine o7 rfl ?_) | (apply zi; refine o8 rfl rfl rfl ?_) | (apply zj; refine o9 rfl rfl rfl ?_) | (apply zc; refine m1 ?_; intro _ _) | (apply zb; first | (refine m2 rfl rfl ?_; intro _ _) | (refine m3 rfl ?_; intro _ _)) | refine Wg rfl rfl ?_ | (apply Ws <;> intro hg)) | (apply zs; refine m4 rfl rfl ?_; intro _ _) | refine Wi rfl ?_ | (apply Ws <;> intro hg))
    refine WR.op (by first | exact gN | exact gS rfl) rfl (OpV.conv u5 u3 rfl (c := hs[k]) (IntWalk.i64_in _ (by omega))) ?_
    refine WR.op (by first | exact gN | exact gS rfl) rfl (OpV.rem' (c := hs[k] % 31) rfl rfl rfl (by omega) (by omega)) ?_
    refine WR.append1F [_, _, _] Mx _ rfl rfl rfl rfl hO hH4 (new := [.int .i64 (hs[k] % 31)]) (by rfl) rfl rfl (Nat.le_refl _) (by omega) (by simp; omega) fun v2 Mx2 n9 H10 hO2 hH10 hn10 => ?_
    simp only [List.cons_append, List.nil_append] at hH10
    have hv2 := (hO2.sl M).one_
    repeat' (first | apply Wa | apply Wb | apply Wc | apply Wd | apply We | apply Wf | refine Wh (by exact rfl) ?_ | apply Wj | apply Wk | apply Wl | apply Wm | apply Wn | apply Wo | apply Wp | refine Wq (by exact rfl) ?_ | apply Wr | apply Wt | apply Wu | apply Wv | refine Wx rfl ?_ | refine Wy rfl ?_ | (apply zw; first | refine o1 rfl ?_ | (apply zf; first | refine o2 rfl ?_ | refine o3 rfl ?_) | (apply za; refine o4 rfl rfl ?_) | (apply ze; refine p4 rfl rfl ?_) | (apply zg; refine p5 rfl rfl ?_) | (apply zm; refine p6 rfl rfl ?_) | (apply zn; first | refine q1 rfl ?_ | refine q2 rfl ?_ | refine p1 rfl ?_ | refine p2 rfl ?_) | (apply zp; first | refine q3 rfl rfl ?_ | refine q4 rfl rfl ?_) | (apply zl; first | refine o5 rfl rfl ?_ | refine p3 rfl ?_) | (apply zk; refine o7 rfl ?_) | (apply zi; refine o8 rfl rfl rfl ?_) | (apply zj; refine o9 rfl rfl rfl ?_) | (apply zc; refine m1 ?_; intro _ _) | (apply zb; first | (refine m2 rfl rfl ?_; intro _ _) | (refine m3 rfl ?_; intro _ _)) | refine Wg rfl rfl ?_ | (apply Ws <;> intro hg)) | (apply zs; refine m4 rfl rfl ?_; intro _ _) | refine Wi rfl ?_ | (apply Ws <;> intro hg))
    refine WR.store1 (by first | exact gN | exact gS rfl) hH10 rfl rfl hv2 (cs' := [.int .i64 (side m a), .int .i64 (side m b), v2]) .here (Nat.zero_le _) (by simp) rfl fun H11 hH11 => ?_
    repeat' (first | apply Wa | apply Wb | apply Wc | apply Wd | apply We | apply Wf | refine Wh (by exact rfl) ?_ | apply Wj | apply Wk | apply Wl | apply Wm | apply Wn | apply Wo | apply Wp | refine Wq (by exact rfl) ?_ | apply Wr | apply Wt | apply Wu | apply Wv | refine Wx rfl ?_ | refine Wy rfl ?_ | (apply zw; first | refine o1 rfl ?_ | (apply zf; first | refine o2 rfl ?_ | refine o3 rfl ?_) | (apply za; refine o4 rfl rfl ?_) | (apply ze; refine p4 rfl rfl ?_) | (apply zg; refine p5 rfl rfl ?_) | (apply zm; refine p6 rfl rfl ?_) | (apply zn; first | refine q1 rfl ?_ | refine q2 rfl ?_ | refine p1 rfl ?_ | refine p2 rfl ?_) | (apply zp; first | refine q3 rfl rfl ?_ | refine q4 rfl rfl ?_) | (apply zl; first | refine o5 rfl rfl ?_ | refine p3 rfl ?_) | (apply zk; refine o7 rfl ?_) | (apply zi; refine o8 rfl rfl rfl ?_) | (apply zj; refine o9 rfl rfl rfl ?_) | (apply zc; refine m1 ?_; intro _ _) | (apply zb; first | (refine m2 rfl rfl ?_; intro _ _) | (refine m3 rfl ?_; intro _ _)) | refine Wg rfl rfl ?_ | (apply Ws <;> intro hg)) | (apply zs; refine m4 rfl rfl ?_; intro _ _) | refine Wi rfl ?_ | (apply Ws <;> intro hg))
    refine Ends.loop ⟨k + 1, v2, Mx2, n9⟩ (by simp only; omega) (by repeat' (first | exact .nil | refine .cons rfl ?_)) rfl ⟨hk', by simp only; omega, ?_, hH11⟩
    have e : ints ((hs.take (k + 1)).map (· % 31)) = ints ((hs.take k).map (· % 31)) ++ [.int .i64 (hs[k] % 31)] := by
      rw [List.take_succ_eq_append_getElem hkl]
      simp only [ints, List.map_append]
      rfl
    rw [e]; exact hO2
  · have hk' : k = q := by omega
    subst hk'
    have hv1 := (hO.sl M).one_
    repeat' (first | apply Wa | apply Wb | apply Wc | apply Wd | apply We | apply Wf | refine Wh (by exact rfl) ?_ | apply Wj | apply Wk | apply Wl | apply Wm | apply Wn | apply Wo | apply Wp | refine Wq (by exact rfl) ?_ | apply Wr | apply Wt | apply Wu | apply Wv | refine Wx rfl ?_ | refine Wy rfl ?_ | (apply zw; first | refine o1 rfl ?_ | (apply zf; first | refine o2 rfl ?_ | refine o3 rfl ?_) | (apply za; refine o4 rfl rfl ?_) | (apply ze; refine p4 rfl rfl ?_) | (apply zg; refine p5 rfl rfl ?_) | (apply zm; refine p6 rfl rfl ?_) | (apply zn; first | refine q1 rfl ?_ | refine q2 rfl ?_ | refine p1 rfl ?_ | refine p2 rfl ?_) | (apply zp; first | refine q3 rfl rfl ?_ | refine q4 rfl rfl ?_) | (apply zl; first | refine o5 rfl rfl ?_ | refine p3 rfl ?_) | (apply zk; refine o7 rfl ?_) | (apply zi; refine o8 rfl rfl rfl ?_) | (apply zj; refine o9 rfl rfl rfl ?_) | (apply zc; refine m1 ?_; intro _ _) | (apply zb; first | (refine m2 rfl rfl ?_; intro _ _) | (refine m3 rfl ?_; intro _ _)) | refine Wg rfl rfl ?_ | (apply Ws <;> intro hg)) | (apply zs; refine m4 rfl rfl ?_; intro _ _) | refine Wi rfl ?_ | (apply Ws <;> intro hg))
    refine WR.storeAll (by first | exact gN | exact gS rfl) hH4 rfl rfl (ls := [.int .i64 (side m a), .int .i64 (side m b), v]) rfl rfl (.there .here) (by (repeat' (first | exact all_nil | refine all_cons (by first | rfl | assumption) ?_))) (by rfl) fun H5 hH5 => ?_
    repeat' (first | apply Wa | apply Wb | apply Wc | apply Wd | apply We | apply Wf | refine Wh (by exact rfl) ?_ | apply Wj | apply Wk | apply Wl | apply Wm | apply Wn | apply Wo | apply Wp | refine Wq (by exact rfl) ?_ | apply Wr | apply Wt | apply Wu | apply Wv | refine Wx rfl ?_ | refine Wy rfl ?_ | (apply zw; first | refine o1 rfl ?_ | (apply zf; first | refine o2 rfl ?_ | refine o3 rfl ?_) | (apply za; refine o4 rfl rfl ?_) | (apply ze; refine p4 rfl rfl ?_) | (apply zg; refine p5 rfl rfl ?_) | (apply zm; refine p6 rfl rfl ?_) | (apply zn; first | refine q1 rfl ?_ | refine q2 rfl ?_ | refine p1 rfl ?_ | refine p2 rfl ?_) | (apply zp; first | refine q3 rfl rfl ?_ | refine q4 rfl rfl ?_) | (apply zl; first | refine o5 rfl rfl ?_ | refine p3 rfl ?_) | (apply zk; refine o7 rfl ?_) | (apply zi; refine o8 rfl rfl rfl ?_) | (apply zj; refine o9 rfl rfl rfl ?_) | (apply zc; refine m1 ?_; intro _ _) | (apply zb; first | (refine m2 rfl rfl ?_; intro _ _) | (refine m3 rfl ?_; intro _ _)) | refine Wg rfl rfl ?_ | (apply Ws <;> intro hg)) | (apply zs; refine m4 rfl rfl ?_; intro _ _) | refine Wi rfl ?_ | (apply Ws <;> intro hg))
    have := hH5.readN (b := n + 1) (u := 0) (lo := 0) (o := 0) (k := 3) (.tail _ (.head _)) (.row _ _ _ _) (Nat.le_refl _) (Nat.le_refl _)
    refine Ends.retCN rfl this ⟨v, Mx, n1, rfl, hn, by rw [hheights]; exact hO, hH5.tail.tail.tail⟩

end Go.Proofs.Ytbnppcgmbiajnaa.Eb
