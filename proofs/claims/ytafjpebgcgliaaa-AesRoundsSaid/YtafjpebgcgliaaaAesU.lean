/-
  AesKeys: the round keys are those of the reference; the last round key tells the key.
-/
import Derived.Test.YtafjpebgcgliaaaRefK
import Derived.Test.YtafjpebgcgliaaaAesI
import Derived.Test.YtafjpebgcgliaaaEqD
namespace Go.Proofs.Ytafjpebgcgliaaa
open Go.RowKit
set_option linter.unusedVariables false
set_option linter.unusedSimpArgs false

theorem xor_cancel {a b c : Nat} (h : a ^^^ c = b ^^^ c) : a = b := by
  have h1 := congrArg (fun x => x ^^^ c) h
  simpa [Nat.xor_assoc] using h1
theorem nx_inj {f g : Bk} {c : Nat} (h : Same (nx f c) (nx g c)) : Same f g := by
  have high : ∀ j, 4 ≤ j → j < 16 → f j = g j := by
    intro j h4 hj
    have h1 := h j hj
    rw [nx_high f c h4, nx_high g c h4, h (j - 4) (by omega)] at h1
    exact xor_cancel h1
  intro j hj
  by_cases h4 : 4 ≤ j
  · exact high j h4 hj
  · have h1 := h j hj
    rw [nx_low f c (by omega), nx_low g c (by omega), high (12 + (j + 1) % 4) (by omega) (by omega)] at h1
    exact xor_cancel (xor_cancel h1)
theorem kys_inj {f g : Bk} (n : Nat) (h : Same (kys f n) (kys g n)) : Same f g := by
  induction n with
  | zero => exact h
  | succ n ih => exact ih (nx_inj h)
theorem eqb_keys (f g : Bk) : eqb 16 (kys f 10) (kys g 10) = eqb 16 f g := by
  by_cases h : Same f g
  · rw [eqb_true.2 h, eqb_true.2 (kys_same h 10)]
  · rw [eqb_false h, eqb_false (fun h1 => h (kys_inj 10 h1))]
theorem wp_load_ks {o : Oper} {a : Act} {w : World} {K : Act → World → Prop} {Q : Exit → Act → World → Prop} (x : Operand) (ho : o.op = .load 32 x)
    (g : Nat) (hx : a.eval x = .pointer (some ⟨g, 0, none⟩)) (f : Nat → Nat) (t : TypeId) (hg : Arr w g t .u8 176 f) (h : K (a.put o.dst (.agg (tabV .u8 176 f))) w) : o.wp Try.prog a w K Q := by
  refine wp_load_mid 32 x ho g 0 hx (tabV .u8 176 f).toList _ (rangeAt_arr hg) Try.underlying32 rfl (by rw [Array.length_toList, tabV_size]; exact size_ks) ?_
  rw [Array.toArray_toList]
  exact h
theorem cells_bk : Try.prog.cellsOf 22 = 16 := by kernel_rfl
theorem noGuard_ks : Try.prog.eqGuardType Try.prog.depth 32 = false := by kernel_rfl
set_option maxRecDepth 100000 in
set_option maxHeartbeats 4000000 in
theorem aesKeys_walk (k b : Nat → Nat) (w : World) (hk : ∀ i, i < 16 → (Lit.int .u8 (k i : Nat)).wf = true) (hb : ∀ i, i < 16 → (Lit.int .u8 (b i : Nat)).wf = true) :
    Calls Try.prog 5 #[.agg (tabV .u8 16 k), .agg (tabV .u8 16 b)] w fun e w' => e = .returned (.bool true) ∧ Ext w w' := by
  have HK := Lib.hid (byt_of hk)
  have HB := Lib.hid (byt_of hb)
  obtain ⟨h0, h1⟩ := two_new w (.cells (tabV .u8 16 k) 22) (.cells (tabV .u8 16 b) 22)
  have hx0 := (Ext.alloc w (.cells (tabV .u8 16 k) 22)).tr (Ext.alloc _ (.cells (tabV .u8 16 b) 22))
  have H0 := Lib.hid (show Arr _ w.heap.size 22 .u8 16 k from h0)
  have H1 := Lib.hid (show Arr _ (w.heap.size + 1) 22 .u8 16 b from h1)
  have HX0 := Lib.hid hx0
  have zk := zero_ks
  clear hk hb h0 h1 hx0
  go_enter Try.func5, Try.ntmps5
  go_wp2_with fail
  refine (awake_c _).mono ?_
  rintro e w1 ⟨rfl, hx1⟩
  have HA1 := Lib.hid (H0.out.ext hx1)
  have HB1 := Lib.hid (H1.out.ext hx1)
  have HX1 := Lib.hid (HX0.out.tr hx1)
  clear hx1 H0 H1 HX0
  go_wp2_with (refine wpList_load_arr rfl 22 (.tmp 2) rfl w.heap.size rfl 22 .u8 16 k _ HA1.out Try.underlying22 size_bk ?_)
  refine (keys_c k HK.out _).mono ?_
  rintro e w2 ⟨rfl, hx2⟩
  have HA2 := Lib.hid (HA1.out.ext hx2)
  have HB2 := Lib.hid (HB1.out.ext hx2)
  have HX2 := Lib.hid (HX1.out.tr hx2)
  have HZ := Lib.hid (Arr.new w2 32 .u8 176 (fun _ => 0))
  clear hx2 HA1 HB1 HX1
  go_wp2_with (first
    | (refine wpList_store_arr' rfl rfl 32 (.tmp 5) (.tmp 10) rfl w2.heap.size .u8 176 (kf k) rfl rfl 32 _ HZ.out size_ks tabV_size ?_
       intro w3 hA3 hG3
       have HKA := Lib.hid hA3
       have HA3 := Lib.hid (show Arr w3 w.heap.size 22 .u8 16 k from grown_get hG3 (HA2.out.ext (Ext.alloc _ _)) (by have := HA2.out.lt; simp; omega))
       have HB3 := Lib.hid (show Arr w3 (w.heap.size + 1) 22 .u8 16 b from grown_get hG3 (HB2.out.ext (Ext.alloc _ _)) (by have := HB2.out.lt; simp; omega))
       have HX3 := Lib.hid (HX2.out.tr (grown_new (Ext.alloc _ _) hG3 (fun g hg => by simp at hg; omega)))
       clear hA3 hG3)
    | refine wpList_load_arr rfl 22 (.tmp 3) rfl (w.heap.size + 1) rfl 22 .u8 16 b _ HB3.out Try.underlying22 size_bk ?_)
  refine (keys_c b HB.out _).mono ?_
  rintro e w4 ⟨rfl, hx4⟩
  obtain ⟨g5, hg5⟩ : ∃ g5, g5 = w2.heap.size := ⟨_, rfl⟩
  rw [← hg5] at HKA ⊢
  clear hg5
  have HKA4 := Lib.hid (HKA.out.ext hx4)
  have HA4 := Lib.hid (HA3.out.ext hx4)
  have HB4 := Lib.hid (HB3.out.ext hx4)
  have HX4 := Lib.hid (HX3.out.tr hx4)
  have HZ4 := Lib.hid (Arr.new w4 32 .u8 176 (fun _ => 0))
  clear hx4 HA2 HB2 HX2 HZ HKA HA3 HB3 HX3
  go_wp2_with (refine wpList_store_arr' rfl rfl 32 (.tmp 6) (.tmp 12) rfl w4.heap.size .u8 176 (kf b) rfl rfl 32 _ HZ4.out size_ks tabV_size ?_
               intro w5 hA5 hG5
               have HKB := Lib.hid hA5
               have HKA5 := Lib.hid (show Arr w5 g5 32 .u8 176 (kf k) from grown_get hG5 (HKA4.out.ext (Ext.alloc _ _)) (by have := HKA4.out.lt; simp; omega))
               have HA5 := Lib.hid (show Arr w5 w.heap.size 22 .u8 16 k from grown_get hG5 (HA4.out.ext (Ext.alloc _ _)) (by have := HA4.out.lt; simp; omega))
               have HB5 := Lib.hid (show Arr w5 (w.heap.size + 1) 22 .u8 16 b from grown_get hG5 (HB4.out.ext (Ext.alloc _ _)) (by have := HB4.out.lt; simp; omega))
               have HX5 := Lib.hid (HX4.out.tr (grown_new (Ext.alloc _ _) hG5 (fun g hg => by simp at hg; omega)))
               clear hA5 hG5)
  obtain ⟨g6, hg6⟩ : ∃ g6, g6 = w4.heap.size := ⟨_, rfl⟩
  rw [← hg6] at HKB ⊢
  clear hg6
  obtain ⟨wd, hwd⟩ : ∃ wd, wd = w5.drew := ⟨_, rfl⟩
  have xd : Ext w5 wd := by rw [hwd]; exact Ext.drew _
  have HA := Lib.hid (HA5.out.ext xd)
  have HC := Lib.hid (HB5.out.ext xd)
  have HKA := Lib.hid (HKA5.out.ext xd)
  have HKB := Lib.hid (HKB.out.ext xd)
  have HX := Lib.hid (HX5.out.tr xd)
  have HWD := Lib.hid hwd
  have HEQ := Lib.hid (eqb_keys k b)
  obtain ⟨q, hq⟩ : ∃ q, q = eqb 16 k b := ⟨_, rfl⟩
  rw [← hq] at HEQ
  have HQ := Lib.hid hq.symm
  clear xd hwd hq HKA4 HA4 HB4 HX4 HZ4 HKA5 HA5 HB5 HX5
  refine wp_region_ord 16 (fun W => Ext wd W) (by kernel_rfl) (by kernel_rfl) (by decide) (by kernel_rfl) (by rw [HWD.out]; exact Ext.refl _) ?_
  simp only [List.take_succ_cons, List.take_zero, List.drop_succ_cons, List.drop_zero]
  refine wpTxt_step (.agg (tabV .u8 176 (kf k))) (fun W K hS hK => wp_load_ks (.tmp 5) rfl g5 rfl (kf k) _ (HKA.out.ext hS) (hK _ hS)) rfl ?_
  simp only [Act.put, List.setIfInBounds_toArray, List.set_cons_zero, List.set_cons_succ]
  refine wpTxt_step (.agg (tabV .u8 16 (k))) (fun W K hS hK => wp_load_arr 22 (.tmp 2) rfl (w.heap.size) rfl .u8 16 (k) _ _ (HA.out.ext hS) Try.underlying22 size_bk (hK _ hS)) rfl ?_
  simp only [Act.put, List.setIfInBounds_toArray, List.set_cons_zero, List.set_cons_succ]
  refine wpTxt_step ?_ (fun W K hS hK => ?_) rfl ?_
  rotate_left
  · simp only [Act.put, List.setIfInBounds_toArray, List.set_cons_zero, List.set_cons_succ] at hK
    go_simp
    refine (box_c _).mono ?_
    rintro e W' ⟨rfl, hx'⟩
    exact hK _ (hS.tr hx')
  simp only [Act.put, List.setIfInBounds_toArray, List.set_cons_zero, List.set_cons_succ]
  refine wpTxt_step ?_ (fun W K hS hK => ?_) rfl ?_
  rotate_left
  · simp only [Act.put, List.setIfInBounds_toArray, List.set_cons_zero, List.set_cons_succ] at hK
    go_simp
    refine (rkeys_c k HK.out _).mono ?_
    rintro e W' ⟨rfl, hx'⟩
    exact hK _ (hS.tr hx')
  simp only [Act.put, List.setIfInBounds_toArray, List.set_cons_zero, List.set_cons_succ]
  refine wpTxt_step (.bool true) (fun W K hS hK => wp_eql_tab2 32 32 (.tmp 13) (.tmp 16) rfl .u8 11 16 176 (kf k) (kf k) rfl rfl 22 5 Try.underlying32 Try.underlying22 Try.underlying5 size_u8 size_bk cells_u8 cells_bk noGuard_ks (fun _ _ => rfl) (by decide) (hK _ hS)) rfl ?_
  simp only [Act.put, List.setIfInBounds_toArray, List.set_cons_zero, List.set_cons_succ]
  repeat (refine wpTxt_step ?_ (fun W K hS hK => ?_) rfl ?_; rotate_left; (simp only [Act.put, List.setIfInBounds_toArray, List.set_cons_zero, List.set_cons_succ] at hK; go_simp; exact hK _ hS); simp only [Act.put, List.setIfInBounds_toArray, List.set_cons_zero, List.set_cons_succ])
  refine wpTxt_step (.agg (tabV .u8 16 (kys k 10))) (fun W K hS hK => wp_load_part 22 (.tmp 19) rfl g5 (10 * 16) rfl .u8 16 (kys k 10) 5 (key_part (HKA.out.ext hS) (by decide)) Try.underlying22 size_bk (hK _ hS)) rfl ?_
  simp only [Act.put, List.setIfInBounds_toArray, List.set_cons_zero, List.set_cons_succ]
  repeat (refine wpTxt_step ?_ (fun W K hS hK => ?_) rfl ?_; rotate_left; (simp only [Act.put, List.setIfInBounds_toArray, List.set_cons_zero, List.set_cons_succ] at hK; go_simp; exact hK _ hS); simp only [Act.put, List.setIfInBounds_toArray, List.set_cons_zero, List.set_cons_succ])
  refine wpTxt_step (.agg (tabV .u8 16 (kys b 10))) (fun W K hS hK => wp_load_part 22 (.tmp 21) rfl g6 (10 * 16) rfl .u8 16 (kys b 10) 5 (key_part (HKB.out.ext hS) (by decide)) Try.underlying22 size_bk (hK _ hS)) rfl ?_
  simp only [Act.put, List.setIfInBounds_toArray, List.set_cons_zero, List.set_cons_succ]
  refine wpTxt_step (.bool q) (fun W K hS hK => wp_eql_dec 22 22 (.tmp 20) (.tmp 22) rfl .u8 16 (kys k 10) (kys b 10) rfl rfl 5 Try.underlying22 Try.underlying5 size_u8 cells_u8 noGuard_bk (by rw [HEQ.out]; exact hK _ hS)) rfl ?_
  simp only [Act.put, List.setIfInBounds_toArray, List.set_cons_zero, List.set_cons_succ]
  refine wpTxt_step (.agg (tabV .u8 16 (k))) (fun W K hS hK => wp_load_arr 22 (.tmp 2) rfl (w.heap.size) rfl .u8 16 (k) _ _ (HA.out.ext hS) Try.underlying22 size_bk (hK _ hS)) rfl ?_
  simp only [Act.put, List.setIfInBounds_toArray, List.set_cons_zero, List.set_cons_succ]
  refine wpTxt_step (.agg (tabV .u8 16 (b))) (fun W K hS hK => wp_load_arr 22 (.tmp 3) rfl (w.heap.size + 1) rfl .u8 16 (b) _ _ (HC.out.ext hS) Try.underlying22 size_bk (hK _ hS)) rfl ?_
  simp only [Act.put, List.setIfInBounds_toArray, List.set_cons_zero, List.set_cons_succ]
  refine wpTxt_step (.bool q) (fun W K hS hK => wp_eql_dec 22 22 (.tmp 24) (.tmp 25) rfl .u8 16 k b rfl rfl 5 Try.underlying22 Try.underlying5 size_u8 cells_u8 noGuard_bk (by rw [HQ.out]; exact hK _ hS)) rfl ?_
  simp only [Act.put, List.setIfInBounds_toArray, List.set_cons_zero, List.set_cons_succ]
  repeat (refine wpTxt_step ?_ (fun W K hS hK => ?_) rfl ?_; rotate_left; (simp only [Act.put, List.setIfInBounds_toArray, List.set_cons_zero, List.set_cons_succ] at hK; go_simp; exact hK _ hS); simp only [Act.put, List.setIfInBounds_toArray, List.set_cons_zero, List.set_cons_succ])
  refine wpTxt_nil ?_
  intro W hS
  have HX2 := Lib.hid (HX.out.tr hS)
  clear hS
  go_wp2_with fail
  go_ret
  exact ⟨rfl, HX2.out⟩
end Go.Proofs.Ytafjpebgcgliaaa
