/- strings.Contains by the library's contract, whatever its variable MaxLen holds. -/
import Derived.Test.YtpjmobhhejdhbaaDoorKnF
import Derived.Shelf.Lays
import Derived.Shelf.Strings.Search3
namespace Go.Proofs.YtpjmobhhejdhbaaDoor.Ev
open Go Go.Abs
set_option linter.unusedSectionVars false
set_option maxRecDepth 100000

def ren144 : Go.Shelf.Ren where
  f := fun | 144 => 56 | 143 => 87 | 219 => 105 | 217 => 127 | 225 => 128 | 224 => 129 | 267 => 130 | 266 => 144 | 314 => 145 | n => n
  t := fun | 9 => 9 | 4 => 4 | 3 => 3 | 5 => 5 | 46 => 121 | 146 => 166 | 51 => 147 | n => n
  g := fun n => n

theorem lays144 : Lays.n144 Tryd.prog ren144 where
  mixed := by kernel_rfl
  f143 := Tryd.func87.trans (congrArg some (by kernel_rfl))
  f144 := Tryd.func56.trans (congrArg some (by kernel_rfl))
  f217 := Tryd.func127.trans (congrArg some (by kernel_rfl))
  f219 := Tryd.func105.trans (congrArg some (by kernel_rfl))
  f224 := Tryd.func129.trans (congrArg some (by kernel_rfl))
  f225 := Tryd.func128.trans (congrArg some (by kernel_rfl))
  f266 := Tryd.func144.trans (congrArg some (by kernel_rfl))
  f267 := Tryd.func130.trans (congrArg some (by kernel_rfl))
  f314 := Tryd.func145.trans (congrArg some (by kernel_rfl))
  t3 := Tryd.underlying3
  a3 := Tryd.isAgg3
  z3 := Tryd.sizeOf3
  v3 := Tryd.zeroValue3
  t4 := Tryd.underlying4
  a4 := Tryd.isAgg4
  z4 := Tryd.sizeOf4
  v4 := Tryd.zeroValue4
  t5 := Tryd.underlying5
  a5 := Tryd.isAgg5
  z5 := Tryd.sizeOf5
  v5 := Tryd.zeroValue5
  t9 := Tryd.underlying9
  a9 := Tryd.isAgg9
  z9 := Tryd.sizeOf9
  v9 := Tryd.zeroValue9
  t46 := Tryd.underlying121
  a46 := Tryd.isAgg121
  z46 := Tryd.sizeOf121
  v46 := Tryd.zeroValue121
  t51 := Tryd.underlying147
  a51 := Tryd.isAgg147
  z51 := Tryd.sizeOf147
  v51 := Tryd.zeroValue147
  t146 := Tryd.underlying166
  a146 := Tryd.isAgg166
  z146 := Tryd.sizeOf166
  v146 := Tryd.zeroValue166
  g1 := by kernel_rfl

variable [HG]

theorem contains_said (s t : ByteArray) (hs : s.size < 4294967281) (H : Heap) : Said C (.call 56 [.string s, .string t] H) (.val (.bool (Lib.contains s.data.toList t.data.toList)) H) := by
  refine ⟨enters_of (f := 56) Tryd.func56 (by kernel_rfl) rfl, fun σ N w args' hH hv cs => ?_⟩
  obtain ⟨_, cells, e, fz, h1, h2⟩ := hH.glob 1 [.int .i64 HG.m] rfl
  have hm : w.cell? ⟨1, 0, none⟩ = some (.int .i64 HG.m) := by simp [World.cell?, h1, h2 0 _ rfl]
  obtain ⟨l⟩ := args'
  cases hv with
  | cons a hv =>
    cases hv with
    | cons b hv =>
      cases hv
      cases a
      cases b
      obtain ⟨e, w', fr, ⟨rfl, rfl⟩, q1, q2, q3⟩ := Any.strings_Contains lays144 s t HG.m w hs hm cs
      exact ⟨σ, _, _, fr, σ.le_refl, hH, .bool _, Fr.refl _ _ _, q1, q2, q3⟩

theorem ora56 {s t : ByteArray} {b : Bool} {H H2 : Heap} (hs : decide (s.size < 4294967281) = true) (hb : (Lib.contains s.data.toList t.data.toList == b) = true) (hH : subH H2 H = true) :
    Said C (.call 56 [.string s, .string t] H) (.val (.bool b) H2) := by
  have := contains_said s t (of_decide_eq_true hs) H
  rw [eq_of_beq hb] at this
  exact Said.sub this (subH_sub hH)
end Go.Proofs.YtpjmobhhejdhbaaDoor.Ev
