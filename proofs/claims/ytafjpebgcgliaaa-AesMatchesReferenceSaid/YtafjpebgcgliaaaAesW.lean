/-
  AesMatchesReference: the encryption of a block is that of the reference.
-/
import Derived.Test.YtafjpebgcgliaaaRefE
import Derived.Test.YtafjpebgcgliaaaSpr
import Derived.Test.YtafjpebgcgliaaaAesI
namespace Go.Proofs.Ytafjpebgcgliaaa
open Go.RowKit
set_option linter.unusedVariables false
set_option linter.unusedSimpArgs false

set_option maxRecDepth 100000 in
set_option maxHeartbeats 4000000 in
theorem aesMatchesReference_walk (k : Nat → Nat) (a : Int) (w : World) (hk : ∀ i, i < 16 → (Lit.int .u8 (k i : Nat)).wf = true) (ha : (Lit.int .u64 a).wf = true) :
    Calls Try.prog 3 #[.agg (tabV .u8 16 k), .int .u64 a] w fun e w' => e = .returned (.bool true) ∧ Ext w w' := by
  obtain ⟨a0, a1⟩ := bd_u64 ha
  obtain ⟨n, rfl⟩ := Int.eq_ofNat_of_zero_le a0
  have HN := Lib.hid (show n < 18446744073709551616 by omega)
  have HK := Lib.hid (byt_of hk)
  have H0 := Lib.hid (Arr.new w 22 .u8 16 k)
  clear hk ha a0 a1
  go_enter Try.func3, Try.ntmps3
  go_wp2_with fail
  refine (awake_c _).mono ?_
  rintro e w1 ⟨rfl, hx1⟩
  obtain ⟨wd, hwd⟩ : ∃ wd, wd = w1.drew := ⟨_, rfl⟩
  have xd : Ext w1 wd := by rw [hwd]; exact Ext.drew _
  have HA := Lib.hid ((H0.out.ext hx1).ext xd)
  have HX := Lib.hid (((Ext.alloc _ _).tr hx1).tr xd)
  have HWD := Lib.hid hwd
  have HBB : Hid (Byt (byt (spr n 16))) := Lib.hid (fun i _ => byt_lt _ _)
  have hb16 := fun W => bytes16_c n HN.out W
  obtain ⟨b, hb⟩ : ∃ b, b = byt (spr n 16) := ⟨_, rfl⟩
  rw [← hb] at HBB hb16
  have HB16 := Lib.hid hb16
  clear hx1 xd hwd H0 hb hb16
  go_wp2_with fail
  refine wp_region_ord 10 (fun W => Ext wd W) (by kernel_rfl) (by kernel_rfl) (by decide) (by kernel_rfl) (by rw [HWD.out]; exact Ext.refl _) ?_
  simp only [List.take_succ_cons, List.take_zero, List.drop_succ_cons, List.drop_zero]
  refine wpTxt_step (.agg (tabV .u8 16 (k))) (fun W K hS hK => wp_load_arr 22 (.tmp 2) rfl (w.heap.size) rfl .u8 16 (k) _ _ (HA.out.ext hS) Try.underlying22 size_bk (hK _ hS)) rfl ?_
  simp only [Act.put, List.setIfInBounds_toArray, List.set_cons_zero, List.set_cons_succ]
  repeat (refine wpTxt_step ?_ (fun W K hS hK => ?_) rfl ?_; rotate_left; (simp only [Act.put, List.setIfInBounds_toArray, List.set_cons_zero, List.set_cons_succ] at hK; go_simp; exact hK _ hS); simp only [Act.put, List.setIfInBounds_toArray, List.set_cons_zero, List.set_cons_succ])
  refine wpTxt_step ?_ (fun W K hS hK => ?_) rfl ?_
  rotate_left
  · simp only [Act.put, List.setIfInBounds_toArray, List.set_cons_zero, List.set_cons_succ] at hK
    go_simp
    refine (HB16.out _).mono ?_
    rintro e W' ⟨rfl, hx'⟩
    exact hK _ (hS.tr hx')
  simp only [Act.put, List.setIfInBounds_toArray, List.set_cons_zero, List.set_cons_succ]
  refine wpTxt_step ?_ (fun W K hS hK => ?_) rfl ?_
  rotate_left
  · simp only [Act.put, List.setIfInBounds_toArray, List.set_cons_zero, List.set_cons_succ] at hK
    go_simp
    refine (encrypt_c k b HK.out HBB.out _).mono ?_
    rintro e W' ⟨rfl, hx'⟩
    exact hK _ (hS.tr hx')
  simp only [Act.put, List.setIfInBounds_toArray, List.set_cons_zero, List.set_cons_succ]
  refine wpTxt_step (.agg (tabV .u8 16 (k))) (fun W K hS hK => wp_load_arr 22 (.tmp 2) rfl (w.heap.size) rfl .u8 16 (k) _ _ (HA.out.ext hS) Try.underlying22 size_bk (hK _ hS)) rfl ?_
  simp only [Act.put, List.setIfInBounds_toArray, List.set_cons_zero, List.set_cons_succ]
  repeat (refine wpTxt_step ?_ (fun W K hS hK => ?_) rfl ?_; rotate_left; (simp only [Act.put, List.setIfInBounds_toArray, List.set_cons_zero, List.set_cons_succ] at hK; go_simp; exact hK _ hS); simp only [Act.put, List.setIfInBounds_toArray, List.set_cons_zero, List.set_cons_succ])
  refine wpTxt_step ?_ (fun W K hS hK => ?_) rfl ?_
  rotate_left
  · simp only [Act.put, List.setIfInBounds_toArray, List.set_cons_zero, List.set_cons_succ] at hK
    go_simp
    refine (HB16.out _).mono ?_
    rintro e W' ⟨rfl, hx'⟩
    exact hK _ (hS.tr hx')
  simp only [Act.put, List.setIfInBounds_toArray, List.set_cons_zero, List.set_cons_succ]
  refine wpTxt_step ?_ (fun W K hS hK => ?_) rfl ?_
  rotate_left
  · simp only [Act.put, List.setIfInBounds_toArray, List.set_cons_zero, List.set_cons_succ] at hK
    go_simp
    refine (box_c _).mono ?_
    rintro e W' ⟨rfl, hx'⟩
    exact hK _ (hS.tr hx')
  simp only [Act.put, List.setIfInBounds_toArray, List.set_cons_zero, List.set_cons_succ]
  refine wpTxt_step ?_ (fun W K hS hK => ?_) rfl ?_
  rotate_left
  · simp only [Act.put, List.setIfInBounds_toArray, List.set_cons_zero, List.set_cons_succ] at hK
    go_simp
    refine (rencrypt_c k b HK.out HBB.out _).mono ?_
    rintro e W' ⟨rfl, hx'⟩
    exact hK _ (hS.tr hx')
  simp only [Act.put, List.setIfInBounds_toArray, List.set_cons_zero, List.set_cons_succ]
  refine wpTxt_step (.bool true) (fun W K hS hK => wp_eql_tab 22 22 (.tmp 10) (.tmp 15) rfl .u8 16 (enc k b) (enc k b) rfl rfl 5 Try.underlying22 Try.underlying5 size_u8 cells_u8 noGuard_bk (fun _ _ => rfl) (hK _ hS)) rfl ?_
  simp only [Act.put, List.setIfInBounds_toArray, List.set_cons_zero, List.set_cons_succ]
  refine wpTxt_nil ?_
  intro W hS
  have HX2 := Lib.hid (HX.out.tr hS)
  clear hS
  go_wp2_with fail
  go_ret
  exact ⟨rfl, HX2.out⟩
end Go.Proofs.Ytafjpebgcgliaaa
