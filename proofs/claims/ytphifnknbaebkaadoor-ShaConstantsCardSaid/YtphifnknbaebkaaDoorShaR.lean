/-
  ShaBlocks: bytes that are made from a number; both implementations' states after a block.
-/
import Derived.Test.YtphifnknbaebkaaDoorShaQ
import Derived.Test.YtphifnknbaebkaaDoorArrQ
import Derived.Test.YtphifnknbaebkaaDoorBytC
import Derived.Deep.RegionHeld3
namespace Go.Proofs.YtphifnknbaebkaaDoor
open Go.RowKit

set_option maxRecDepth 100000 in
set_option maxHeartbeats 1000000 in
theorem table_c (w : World) : Calls Tryd.prog 15 #[] w fun e w' => e = .returned (.agg (tabV .u32 64 kc)) ∧ Ext w w' := by
  go_enter Tryd.func15, Tryd.ntmps15
  go_wp2_with (first | (refine wpList_build_tab rfl 37 _ rfl .u32 64 kc (by kernel_rfl) ?_) | (refine wpList_store_arr rfl 37 (.tmp 0) (.tmp 1) rfl w.heap.size .u32 64 kc rfl rfl 37 _ (new_of _ _) size_wds rfl ?_; intro W hA hG))
  refine bodyPost_ret (v := .agg (tabV .u32 64 kc)) ?_ rfl ⟨rfl, grown_new (Ext.alloc _ _) hG (fun g hg => by simp at hg; omega)⟩
  exact results_cell_row rfl _ _ _ _ _ _ _ rfl hA Tryd.underlying37 rfl (by rw [tabV_size]; exact size_wds)
set_option maxRecDepth 100000 in
set_option maxHeartbeats 1000000 in
theorem rstart_c (w : World) : Calls Tryd.prog 25 #[] w fun e w' => e = .returned (.agg (tabV .u32 8 st0.get)) ∧ Ext w w' := by
  go_enter Tryd.func25, Tryd.ntmps25
  go_wp2_with fail
  have hA : Arr (w.alloc (.cells (tabV .u32 8 st0.get) 32)) w.heap.size 32 .u32 8 st0.get := Arr.new _ _ _ _ _
  refine bodyPost_ret (v := .agg (tabV .u32 8 st0.get)) ?_ rfl ⟨rfl, Ext.alloc _ _⟩
  exact results_cell_row rfl _ _ _ _ _ _ _ rfl hA Tryd.underlying32 rfl (by rw [tabV_size]; exact size_st)
theorem cells_u32 : Tryd.prog.cellsOf 31 = 1 := by kernel_rfl
theorem cells_u8 : Tryd.prog.cellsOf 5 = 1 := by kernel_rfl
theorem noGuard_st : Tryd.prog.eqGuardType Tryd.prog.depth 32 = false := by kernel_rfl
theorem noGuard_dig : Tryd.prog.eqGuardType Tryd.prog.depth 26 = false := by kernel_rfl

/-- what the law's own variables hold -/
def HeldB (h3 h5 : Nat) (st : St) (bl : Nat → Nat) (V : World) : Prop := Arr V h3 32 .u32 8 st.get ∧ Arr V h5 33 .u8 64 bl
theorem HeldB.ext {h3 h5 : Nat} {st : St} {bl : Nat → Nat} {V V' : World} (h : HeldB h3 h5 st bl V) (hx : Ext V V') : HeldB h3 h5 st bl V' := ⟨h.1.ext hx, h.2.ext hx⟩

set_option maxRecDepth 100000 in
set_option maxHeartbeats 4000000 in
theorem blocks_go (seed : Nat) (hs : seed < 18446744073709551616) (st : St) (hst : st.ok) (w : World) (ht : Tab w) :
    Calls Tryd.prog 4 #[.int .u64 seed, .agg (tabV .u32 8 st.get)] w fun e w' => e = .returned (.bool true) ∧ Ext w w' := by
  have HS := Lib.hid hs
  have HST := Lib.hid hst
  have HT := Lib.hid ht
  clear hs hst ht
  go_enter Tryd.func4, Tryd.ntmps4
  go_wp2_with fail
  refine (awake_c _ (HT.out.ext (Ext.alloc _ _))).mono ?_
  rintro e w1 ⟨rfl, hx1⟩
  have a1 : Arr w1 w.heap.size 32 .u32 8 st.get := hx1.get (new_of _ _)
  have HA1 := Lib.hid a1
  have HX1 := Lib.hid ((Ext.alloc _ _).tr hx1)
  clear a1 hx1
  go_wp2_with fail
  refine (spread_c seed 64 HS.out (by decide) _).mono ?_
  rintro e w2 ⟨A, c, rfl, ho2, hx2⟩
  have hr := ho2.rb
  have hln := spr_len seed 64
  obtain ⟨g, off, cs, t, fr, rfl, _⟩ := hr (by omega)
  have hrange := rangeAt_rb hr (n := 64) (by omega) (byt (spr seed 64)) (fun i _ => rfl) (by decide)
  have HRG := Lib.hid hrange
  have HA2 := Lib.hid (HA1.out.ext hx2)
  have HX2 := Lib.hid (HX1.out.tr hx2)
  have harr := fun (a : Option Addr) (c : Nat) => run_arrayAt (P := Tryd.prog) (t := 33) Tryd.underlying33 a 64 c (by decide)
  clear hr hrange ho2 hx2 hln
  go_wp2_with (first | (refine wpList_load_part rfl 33 (.tmp 10) rfl g off rfl .u8 64 (byt (spr seed 64)) _ HRG.out Tryd.underlying33 size_blk ?_) | (refine wpList_store_arr rfl 33 (.tmp 5) (.tmp 11) rfl w2.heap.size .u8 64 (byt (spr seed 64)) rfl rfl 33 _ (new_of _ _) size_blk rfl ?_; intro W hB hG))
  have hxW : Ext w2 W := grown_new (Ext.alloc _ _) hG (fun g hg => by simp at hg; omega)
  have hA3 := HA2.out.ext hxW
  have HX3 := Lib.hid (HX2.out.tr hxW)
  have HA3 := Lib.hid hA3
  have HB3 := Lib.hid hB
  have hbl := byt_lt (spr seed 64)
  obtain ⟨bl, hble⟩ : ∃ bl, bl = byt (spr seed 64) := ⟨_, rfl⟩
  rw [← hble] at HB3 hbl
  clear hxW hA3 hB hG harr hble
  obtain ⟨h3, hh3⟩ : ∃ h3, h3 = w.heap.size := ⟨_, rfl⟩
  obtain ⟨h5, hh5⟩ : ∃ h5, h5 = w2.heap.size := ⟨_, rfl⟩
  rw [← hh3] at HA3 ⊢
  rw [← hh5] at HB3 ⊢
  have h0 : HeldB h3 h5 st bl W := ⟨HA3.out, HB3.out⟩
  have H0 := Lib.hid h0
  clear hh3 hh5 h0
  refine wp_region_held_drew (S := HeldB h3 h5 st bl) (by kernel_rfl) (H0.out.ext (Ext.drew W)) (fun hHeld => ?_)
  refine wpAnyH_take_arr 0 rfl (by kernel_rfl) (by kernel_rfl) (by kernel_rfl) (fun _ _ _ _ h => h) (by kernel_rfl) 32 (.tmp 3) rfl h3 0 rfl .u32 8 st.get _ (fun w hw => rangeAt_arr hw.1) Tryd.underlying32 size_st hHeld ?_
  refine wpAnyH_take_arr 1 rfl (by kernel_rfl) (by kernel_rfl) (by kernel_rfl) (fun _ _ _ _ h => h) (by kernel_rfl) 33 (.tmp 5) rfl h5 0 rfl .u8 64 bl _ (fun w hw => rangeAt_arr hw.2) Tryd.underlying33 size_blk hHeld ?_
  refine wpAnyH_take_arr 3 rfl (by kernel_rfl) (by kernel_rfl) (by kernel_rfl) (fun _ _ _ _ h => h) (by kernel_rfl) 32 (.tmp 3) rfl h3 0 rfl .u32 8 st.get _ (fun w hw => rangeAt_arr hw.1) Tryd.underlying32 size_st hHeld ?_
  refine wpAnyH_take_arr 4 rfl (by kernel_rfl) (by kernel_rfl) (by kernel_rfl) (fun _ _ _ _ h => h) (by kernel_rfl) 33 (.tmp 5) rfl h5 0 rfl .u8 64 bl _ (fun w hw => rangeAt_arr hw.2) Tryd.underlying33 size_blk hHeld ?_
  simp only [Act.put, List.setIfInBounds_toArray]
  refine wpAnyH_ready (rs := [2]) (by kernel_rfl) (by simp) ?_
  refine AllReadyH.cons rfl (fun K hK => ?_) AllReadyH.nil
  go_simp
  refine (block_c st HST.out bl hbl _ (HT.out.ext (HX3.out.tr (Ext.drew W)))).mono ?_
  rintro e v1 ⟨rfl, hx1⟩
  refine hK.out _ _ (hHeld.ext hx1) (fun hHeld1 => ?_)
  clear hK K
  try simp only [Act.put, List.setIfInBounds_toArray, List.set_cons_zero, List.set_cons_succ]
  refine wpAnyH_ready (rs := [5]) (by kernel_rfl) (by simp) ?_
  refine AllReadyH.cons rfl (fun K hK => ?_) AllReadyH.nil
  go_simp
  refine (table_c _).mono ?_
  rintro e v2 ⟨rfl, hx2⟩
  refine hK.out _ _ (hHeld1.ext hx2) (fun hHeld2 => ?_)
  clear hK K
  try simp only [Act.put, List.setIfInBounds_toArray, List.set_cons_zero, List.set_cons_succ]
  refine wpAnyH_ready (rs := [6]) (by kernel_rfl) (by simp) ?_
  refine AllReadyH.cons rfl (fun K hK => ?_) AllReadyH.nil
  go_simp
  refine (rblock_c st HST.out bl hbl kc _).mono ?_
  rintro e v3 ⟨rfl, hx3⟩
  refine hK.out _ _ (hHeld2.ext hx3) (fun hHeld3 => ?_)
  clear hK K
  try simp only [Act.put, List.setIfInBounds_toArray, List.set_cons_zero, List.set_cons_succ]
  refine wpAnyH_ready (rs := [7]) (by kernel_rfl) (by simp) ?_
  refine AllReadyH.cons rfl (fun K hK => ?_) AllReadyH.nil
  refine step_eql_tab (by kernel_rfl) 32 32 (.tmp 14) (.tmp 18) rfl .u32 8 (blk kc st bl).get (blk kc st bl).get rfl rfl 31 Tryd.underlying32 Tryd.underlying31 size_u32 cells_u32 noGuard_st (fun _ _ => rfl) ?_
  refine hK.out _ _ hHeld3 (fun hHeld4 => ?_)
  clear hK K
  try simp only [Act.put, List.setIfInBounds_toArray]
  refine wpAnyH_ready (rs := [8]) (by kernel_rfl) (by simp) ?_
  refine AllReadyH.cons rfl (fun K hK => ?_) AllReadyH.nil
  go_simp
  refine hK.out _ _ hHeld4 (fun _ => ?_)
  clear hK K
  try simp only [Act.put, List.setIfInBounds_toArray, List.set_cons_zero, List.set_cons_succ]
  refine wpAnyH_done (by kernel_rfl) ?_ _
  go_wp2_with fail
  go_ret
  exact ⟨rfl, (((HX3.out.tr (Ext.drew W)).tr hx1).tr hx2).tr hx3⟩
theorem shaBlocks_walk (a : Int) (f : Nat → Nat) (w : World) (ha : (Lit.int .u64 a).wf = true) (hf : ∀ i, i < 8 → (Lit.int .u32 (f i : Nat)).wf = true) (ht : Tab w) :
    Calls Tryd.prog 4 #[.int .u64 a, .agg (tabV .u32 8 f)] w fun e w' => e = .returned (.bool true) ∧ Ext w w' := by
  obtain ⟨h1, h2⟩ := bd_u64 ha
  obtain ⟨seed, rfl⟩ := Int.eq_ofNat_of_zero_le h1
  have hb : ∀ i, i < 8 → f i < 4294967296 := fun i hi => by have := (bd_u32 (hf i hi)).2; omega
  have hst : (stOf f).ok := St.ok_mk (hb 0 (by decide)) (hb 1 (by decide)) (hb 2 (by decide)) (hb 3 (by decide)) (hb 4 (by decide)) (hb 5 (by decide)) (hb 6 (by decide)) (hb 7 (by decide))
  rw [tabV_congr (f := f) (f' := (stOf f).get) (fun i hi => (stOf_get f hi).symm)]
  exact blocks_go seed (by omega) (stOf f) hst w ht
end Go.Proofs.YtphifnknbaebkaaDoor
