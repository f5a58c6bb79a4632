import Derived.Test.YtbnppcgmbiajnaaE8
namespace Go.Proofs.Ytbnppcgmbiajnaa.Eb
open Go Go.Abs Go.Low
set_option linter.unusedVariables false
set_option linter.unusedSimpArgs false
attribute [local irreducible] gOK WS WC WR WD Ends FS YS OpV seqK blockK loopK midK retK rdK asgK rangeEnd sat Cell

theorem u5 : C.c.P.underlying 5 = some (.int .u8) := by kernel_rfl
theorem u3 : C.c.P.underlying 3 = some (.int .i64) := by kernel_rfl

/-- A strand by numbers: what it stands for. -/
abbrev strand (a b : Int) (hs : List Int) : List Value := .int .u8 a :: .int .u8 b :: hs.map (Value.int .u8)

structure Bytes (a b : Int) (hs : List Int) : Prop where
  a : 0 ≤ a ∧ a ≤ 255
  b : 0 ≤ b ∧ b ≤ 255
  len : hs.length = 36
  hs : ∀ x ∈ hs, 0 ≤ x ∧ x ≤ 255

def side (m a : Int) : Int := 1 + a % m
def heightsOf (m a b : Int) (hs : List Int) : List Int := (hs.take (side m a * side m b).toNat).map (· % 31)

theorem side_le {m a : Int} (hm : 1 ≤ m ∧ m ≤ 6) : 1 ≤ side m a ∧ side m a ≤ 6 := by
  have h1 := Int.emod_nonneg a (show m ≠ 0 by omega)
  have h2 := Int.emod_lt_of_pos a (show 0 < m by omega)
  unfold side
  omega

theorem made_check {m a b : Int} {hs : List Int} (hm : 1 ≤ m ∧ m ≤ 6) (hb : Bytes a b hs) : checkE (side m a) (side m b) (heightsOf m a b hs) = 0 := by
  have h1 := side_le (a := a) hm
  have h2 := side_le (a := b) hm
  have hp := prod_le h1 h2
  have hl := hb.len
  have hlen : ((heightsOf m a b hs).length : Int) = side m a * side m b := by
    simp only [heightsOf, List.length_map, List.length_take]
    omega
  unfold checkE
  rw [if_neg (by omega), if_neg (by omega), if_pos]
  intro x hx
  simp only [heightsOf, List.mem_map] at hx
  obtain ⟨y, _, rfl⟩ := hx
  omega

theorem strand_one (a b : Int) (hs : List Int) : (strand a b hs).all one = true := by simp [strand, one]
end Go.Proofs.Ytbnppcgmbiajnaa.Eb
