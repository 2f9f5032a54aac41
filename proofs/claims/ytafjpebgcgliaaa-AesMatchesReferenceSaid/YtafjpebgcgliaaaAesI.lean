/-
  AesInverse: decryption undoes encryption, and encryption undoes decryption.
-/
import Derived.Test.YtafjpebgcgliaaaAesV
import Derived.Test.YtafjpebgcgliaaaArrO
namespace Go.Proofs.Ytafjpebgcgliaaa
open Go.RowKit

theorem byt_of {f : Nat → Nat} (h : ∀ i, i < 16 → (Lit.int .u8 (f i : Nat)).wf = true) : Byt f := fun i hi => by have := (bd_u8 (h i hi)).2; omega
set_option maxRecDepth 100000 in
set_option maxHeartbeats 4000000 in
theorem aesInverse_walk (k b : Nat → Nat) (w : World) (hk : ∀ i, i < 16 → (Lit.int .u8 (k i : Nat)).wf = true) (hb : ∀ i, i < 16 → (Lit.int .u8 (b i : Nat)).wf = true) :
    Calls Try.prog 4 #[.agg (tabV .u8 16 k), .agg (tabV .u8 16 b)] w fun e w' => e = .returned (.bool true) ∧ Ext w w' := by
  have HK := Lib.hid (byt_of hk)
  have HB := Lib.hid (byt_of hb)
  obtain ⟨h0, h1⟩ := two_new w (.cells (tabV .u8 16 k) 22) (.cells (tabV .u8 16 b) 22)
  have hx0 := (Ext.alloc w (.cells (tabV .u8 16 k) 22)).tr (Ext.alloc _ (.cells (tabV .u8 16 b) 22))
  have H0 := Lib.hid (show Arr _ w.heap.size 22 .u8 16 k from h0)
  have H1 := Lib.hid (show Arr _ (w.heap.size + 1) 22 .u8 16 b from h1)
  have HX0 := Lib.hid hx0
  clear hk hb h0 h1 hx0
  go_enter Try.func4, Try.ntmps4
  go_wp2_with fail
  refine (awake_c _).mono ?_
  rintro e w1 ⟨rfl, hx1⟩
  obtain ⟨wd, hwd⟩ : ∃ wd, wd = w1.drew := ⟨_, rfl⟩
  have xd : Ext w1 wd := by rw [hwd]; exact Ext.drew _
  have HA := Lib.hid ((H0.out.ext hx1).ext xd)
  have HC := Lib.hid ((H1.out.ext hx1).ext xd)
  have HX := Lib.hid ((HX0.out.tr hx1).tr xd)
  have HWD := Lib.hid hwd
  clear hx1 xd hwd H0 H1 HX0
  go_wp2_with fail
  refine wp_region_ord 16 (fun W => Ext wd W) (by kernel_rfl) (by kernel_rfl) (by decide) (by kernel_rfl) (by rw [HWD.out]; exact Ext.refl _) ?_
  simp only [List.take_succ_cons, List.take_zero, List.drop_succ_cons, List.drop_zero]
  refine wpTxt_step (.agg (tabV .u8 16 (k))) (fun W K hS hK => wp_load_arr 22 (.tmp 2) rfl (w.heap.size) rfl .u8 16 (k) _ _ (HA.out.ext hS) Try.underlying22 size_bk (hK _ hS)) rfl ?_
  simp only [Act.put, List.setIfInBounds_toArray, List.set_cons_zero, List.set_cons_succ]
  refine wpTxt_step (.agg (tabV .u8 16 (k))) (fun W K hS hK => wp_load_arr 22 (.tmp 2) rfl (w.heap.size) rfl .u8 16 (k) _ _ (HA.out.ext hS) Try.underlying22 size_bk (hK _ hS)) rfl ?_
  simp only [Act.put, List.setIfInBounds_toArray, List.set_cons_zero, List.set_cons_succ]
  refine wpTxt_step (.agg (tabV .u8 16 (b))) (fun W K hS hK => wp_load_arr 22 (.tmp 3) rfl (w.heap.size + 1) rfl .u8 16 (b) _ _ (HC.out.ext hS) Try.underlying22 size_bk (hK _ hS)) rfl ?_
  simp only [Act.put, List.setIfInBounds_toArray, List.set_cons_zero, List.set_cons_succ]
  refine wpTxt_step ?_ (fun W K hS hK => ?_) rfl ?_
  rotate_left
  · simp only [Act.put, List.setIfInBounds_toArray, List.set_cons_zero, List.set_cons_succ] at hK
    go_simp
    refine (encrypt_c k b HK.out HB.out _).mono ?_
    rintro e W' ⟨rfl, hx'⟩
    exact hK _ (hS.tr hx')
  simp only [Act.put, List.setIfInBounds_toArray, List.set_cons_zero, List.set_cons_succ]
  refine wpTxt_step ?_ (fun W K hS hK => ?_) rfl ?_
  rotate_left
  · simp only [Act.put, List.setIfInBounds_toArray, List.set_cons_zero, List.set_cons_succ] at hK
    go_simp
    refine (decrypt_c k (enc k b) HK.out (enc_byt HK.out HB.out) _).mono ?_
    rintro e W' ⟨rfl, hx'⟩
    exact hK _ (hS.tr hx')
  simp only [Act.put, List.setIfInBounds_toArray, List.set_cons_zero, List.set_cons_succ]
  refine wpTxt_step (.agg (tabV .u8 16 (b))) (fun W K hS hK => wp_load_arr 22 (.tmp 3) rfl (w.heap.size + 1) rfl .u8 16 (b) _ _ (HC.out.ext hS) Try.underlying22 size_bk (hK _ hS)) rfl ?_
  simp only [Act.put, List.setIfInBounds_toArray, List.set_cons_zero, List.set_cons_succ]
  refine wpTxt_step (.bool true) (fun W K hS hK => wp_eql_tab 22 22 (.tmp 11) (.tmp 12) rfl .u8 16 (dec k (enc k b)) (b) rfl rfl 5 Try.underlying22 Try.underlying5 size_u8 cells_u8 noGuard_bk (dec_enc HK.out HB.out) (hK _ hS)) rfl ?_
  simp only [Act.put, List.setIfInBounds_toArray, List.set_cons_zero, List.set_cons_succ]
  repeat (refine wpTxt_step ?_ (fun W K hS hK => ?_) rfl ?_; rotate_left; (simp only [Act.put, List.setIfInBounds_toArray, List.set_cons_zero, List.set_cons_succ] at hK; go_simp; exact hK _ hS); simp only [Act.put, List.setIfInBounds_toArray, List.set_cons_zero, List.set_cons_succ])
  refine wpTxt_step (.agg (tabV .u8 16 (k))) (fun W K hS hK => wp_load_arr 22 (.tmp 2) rfl (w.heap.size) rfl .u8 16 (k) _ _ (HA.out.ext hS) Try.underlying22 size_bk (hK _ hS)) rfl ?_
  simp only [Act.put, List.setIfInBounds_toArray, List.set_cons_zero, List.set_cons_succ]
  refine wpTxt_step (.agg (tabV .u8 16 (k))) (fun W K hS hK => wp_load_arr 22 (.tmp 2) rfl (w.heap.size) rfl .u8 16 (k) _ _ (HA.out.ext hS) Try.underlying22 size_bk (hK _ hS)) rfl ?_
  simp only [Act.put, List.setIfInBounds_toArray, List.set_cons_zero, List.set_cons_succ]
  refine wpTxt_step (.agg (tabV .u8 16 (b))) (fun W K hS hK => wp_load_arr 22 (.tmp 3) rfl (w.heap.size + 1) rfl .u8 16 (b) _ _ (HC.out.ext hS) Try.underlying22 size_bk (hK _ hS)) rfl ?_
  simp only [Act.put, List.setIfInBounds_toArray, List.set_cons_zero, List.set_cons_succ]
  refine wpTxt_step ?_ (fun W K hS hK => ?_) rfl ?_
  rotate_left
  · simp only [Act.put, List.setIfInBounds_toArray, List.set_cons_zero, List.set_cons_succ] at hK
    go_simp
    refine (decrypt_c k b HK.out HB.out _).mono ?_
    rintro e W' ⟨rfl, hx'⟩
    exact hK _ (hS.tr hx')
  simp only [Act.put, List.setIfInBounds_toArray, List.set_cons_zero, List.set_cons_succ]
  refine wpTxt_step ?_ (fun W K hS hK => ?_) rfl ?_
  rotate_left
  · simp only [Act.put, List.setIfInBounds_toArray, List.set_cons_zero, List.set_cons_succ] at hK
    go_simp
    refine (encrypt_c k (dec k b) HK.out (dec_byt HK.out HB.out) _).mono ?_
    rintro e W' ⟨rfl, hx'⟩
    exact hK _ (hS.tr hx')
  simp only [Act.put, List.setIfInBounds_toArray, List.set_cons_zero, List.set_cons_succ]
  refine wpTxt_step (.agg (tabV .u8 16 (b))) (fun W K hS hK => wp_load_arr 22 (.tmp 3) rfl (w.heap.size + 1) rfl .u8 16 (b) _ _ (HC.out.ext hS) Try.underlying22 size_bk (hK _ hS)) rfl ?_
  simp only [Act.put, List.setIfInBounds_toArray, List.set_cons_zero, List.set_cons_succ]
  refine wpTxt_step (.bool true) (fun W K hS hK => wp_eql_tab 22 22 (.tmp 19) (.tmp 20) rfl .u8 16 (enc k (dec k b)) (b) rfl rfl 5 Try.underlying22 Try.underlying5 size_u8 cells_u8 noGuard_bk (enc_dec HK.out HB.out) (hK _ hS)) rfl ?_
  simp only [Act.put, List.setIfInBounds_toArray, List.set_cons_zero, List.set_cons_succ]
  repeat (refine wpTxt_step ?_ (fun W K hS hK => ?_) rfl ?_; rotate_left; (simp only [Act.put, List.setIfInBounds_toArray, List.set_cons_zero, List.set_cons_succ] at hK; go_simp; exact hK _ hS); simp only [Act.put, List.setIfInBounds_toArray, List.set_cons_zero, List.set_cons_succ])
  refine wpTxt_nil ?_
  intro W hS
  have HX2 := Lib.hid (HX.out.tr hS)
  clear hS
  go_wp2_with fail
  go_ret
  exact ⟨rfl, HX2.out⟩
end Go.Proofs.Ytafjpebgcgliaaa
