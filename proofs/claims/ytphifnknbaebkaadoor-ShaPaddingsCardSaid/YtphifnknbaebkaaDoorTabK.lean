/-
  What the row's list of variables gives: the constants lie where the program reads them.
-/
import Derived.Test.YtphifnknbaebkaaDoorShaB
import Derived.ProofKit
import Derived.OpenShut
import Derived.Deep.DeepHandedRow
import Derived.Lib.LaidTab
namespace Go.Proofs.YtphifnknbaebkaaDoor
open Go.ChangeShapes Go.WideShapes Go.ChangeAt Go.RowKit

theorem gTab : Tryd.prog.globalNamed "toll/sha.constants" = some 0 := by kernel_rfl
theorem gTabType : (Tryd.prog.globals[0]?).map (·.type) = some 37 := by kernel_rfl
theorem cellsTab : Tryd.prog.cellsOf 37 = 64 := by kernel_rfl
theorem cellsU32 : Tryd.prog.cellsOf 31 = 1 := by kernel_rfl
def kLI : List Int := kL.map Int.ofNat
theorem kLI_at (i : Nat) : kLI.getD i 0 = (kc i : Nat) := by
  unfold kLI kc
  rw [List.getD_eq_getElem?_getD, List.getD_eq_getElem?_getD, List.getElem?_map]
  cases kL[i]? <;> rfl
theorem table {W : World} (h : laidMetH Tryd.prog [("toll/sha.constants", Rows.laid_toll_sha_constants)] W) : Lib.TabIs Tryd.prog W "toll/sha.constants" .u32 kLI :=
  Lib.tabIs_of_head (rest := []) gTab gTabType Tryd.underlying37 Tryd.underlying31 cellsU32 cellsTab h
theorem tab_of_laid {W : World} (h : laidMetH Tryd.prog [("toll/sha.constants", Rows.laid_toll_sha_constants)] W) : Tab W := by
  have ht := fun (i : Nat) (hi : i < 64) => (table h).cell gTab i (by simpa [kLI, kL] using hi)
  obtain ⟨_, cs, t, fr, hh⟩ := addr_at (ht 0 (by decide))
  refine ⟨cs, t, fr, hh, fun i hi => ?_⟩
  have := ht i hi
  rw [cells_of hh] at this
  rw [this, kLI_at]
/-- a world for the witness: the settled one, the constants in their block -/
noncomputable def laidWorld (os : Os) : World :=
  { World.holding Tryd.prog os ⟨#[], #[], []⟩ with heap := (World.holding Tryd.prog os ⟨#[], #[], []⟩).heap.modify 0 fun
      | .cells _ t frozen => .cells (tabV .u32 64 kc) t frozen
      | o => o }
end Go.Proofs.YtphifnknbaebkaaDoor
