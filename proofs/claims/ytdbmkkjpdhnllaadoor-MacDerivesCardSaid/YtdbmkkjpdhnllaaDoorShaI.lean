/-
  The reference: the table and the start of SHA-256.
-/
import Derived.Test.YtdbmkkjpdhnllaaDoorShaQ
import Derived.Test.YtdbmkkjpdhnllaaDoorArrQ
import Derived.Test.YtdbmkkjpdhnllaaDoorBytC
import Derived.Deep.RegionHeld3
namespace Go.Proofs.YtdbmkkjpdhnllaaDoor
open Go.RowKit

set_option maxRecDepth 100000 in
set_option maxHeartbeats 1000000 in
theorem table_c (w : World) : Calls Tryd.prog 26 #[] w fun e w' => e = .returned (.agg (tabV .u32 64 kc)) ∧ Ext w w' := by
  go_enter Tryd.func26, Tryd.ntmps26
  go_wp2_with (first | (refine wpList_build_tab rfl 51 _ rfl .u32 64 kc (by kernel_rfl) ?_) | (refine wpList_store_arr rfl 51 (.tmp 0) (.tmp 1) rfl w.heap.size .u32 64 kc rfl rfl 51 _ (new_of _ _) size_wds rfl ?_; intro W hA hG))
  refine bodyPost_ret (v := .agg (tabV .u32 64 kc)) ?_ rfl ⟨rfl, grown_new (Ext.alloc _ _) hG (fun g hg => by simp at hg; omega)⟩
  exact results_cell_row rfl _ _ _ _ _ _ _ rfl hA Tryd.underlying51 rfl (by rw [tabV_size]; exact size_wds)
set_option maxRecDepth 100000 in
set_option maxHeartbeats 1000000 in
theorem rstart_c (w : World) : Calls Tryd.prog 25 #[] w fun e w' => e = .returned (.agg (tabV .u32 8 st0.get)) ∧ Ext w w' := by
  go_enter Tryd.func25, Tryd.ntmps25
  go_wp2_with fail
  have hA : Arr (w.alloc (.cells (tabV .u32 8 st0.get) 49)) w.heap.size 49 .u32 8 st0.get := Arr.new _ _ _ _ _
  refine bodyPost_ret (v := .agg (tabV .u32 8 st0.get)) ?_ rfl ⟨rfl, Ext.alloc _ _⟩
  exact results_cell_row rfl _ _ _ _ _ _ _ rfl hA Tryd.underlying49 rfl (by rw [tabV_size]; exact size_st)
theorem cells_u32 : Tryd.prog.cellsOf 48 = 1 := by kernel_rfl
theorem cells_u8 : Tryd.prog.cellsOf 5 = 1 := by kernel_rfl
theorem noGuard_st : Tryd.prog.eqGuardType Tryd.prog.depth 49 = false := by kernel_rfl
theorem noGuard_dig : Tryd.prog.eqGuardType Tryd.prog.depth 26 = false := by kernel_rfl

end Go.Proofs.YtdbmkkjpdhnllaaDoor
