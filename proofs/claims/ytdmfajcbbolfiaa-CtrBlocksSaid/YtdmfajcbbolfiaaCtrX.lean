/-
  The law CtrBlocks.
-/
import Derived.Test.YtdmfajcbbolfiaaCtrW
import Derived.Test.YtdmfajcbbolfiaaEqD
namespace Go.Proofs.Ytdmfajcbbolfiaa
open Go.RowKit
set_option linter.unusedVariables false
set_option linter.unusedSimpArgs false

theorem enc_inj {k b c : Bk} (hk : Byt k) (hb : Byt b) (hc : Byt c) (h : Same (enc k b) (enc k c)) : Same b c :=
  (dec_enc hk hb).symm.trans ((dec_same (Same.refl k) h).trans (dec_enc hk hc))
theorem digits_inj : ∀ (k i j : Nat), i < 256 ^ k → j < 256 ^ k → (∀ t, t < k → i / 256 ^ t % 256 = j / 256 ^ t % 256) → i = j
  | 0, i, j, hi, hj, _ => by simp at hi hj; omega
  | k + 1, i, j, hi, hj, h => by
    have h0 := h 0 (by omega)
    simp only [Nat.pow_zero, Nat.div_one] at h0
    have ih := digits_inj k (i / 256) (j / 256) (by rw [Nat.pow_succ] at hi; exact Nat.div_lt_of_lt_mul (by omega)) (by rw [Nat.pow_succ] at hj; exact Nat.div_lt_of_lt_mul (by omega)) (fun t ht => by
      have := h (t + 1) (by omega)
      rw [Nat.pow_succ, Nat.mul_comm, ← Nat.div_div_eq_div_mul, ← Nat.div_div_eq_div_mul] at this
      exact this)
    omega
theorem cin_inj {f g : Nat → Nat} {i j : Nat} (hi : i < 18446744073709551616) (hj : j < 18446744073709551616) (h : Same (cin f i) (cin g j)) : (∀ t, t < 8 → f t = g t) ∧ i = j := by
  refine ⟨fun t ht => ?_, digits_inj 8 i j hi hj (fun t ht => ?_)⟩
  · have := h t (by omega)
    unfold cin at this
    rw [if_pos ht, if_pos ht] at this
    exact this
  · have := h (15 - t) (by omega)
    unfold cin at this
    rw [if_neg (by omega), if_neg (by omega), show 15 - (15 - t) = t by omega] at this
    exact this
theorem noGuard_nc : Try.prog.eqGuardType Try.prog.depth 23 = false := by kernel_rfl
set_option maxRecDepth 100000 in
set_option maxHeartbeats 4000000 in
theorem ctrBlocks_walk (key nonce other : Nat → Nat) (a : Int) (w : World) (hk' : ∀ i, i < 16 → (Lit.int .u8 (key i : Nat)).wf = true) (hn' : ∀ i, i < 8 → (Lit.int .u8 (nonce i : Nat)).wf = true) (ho' : ∀ i, i < 8 → (Lit.int .u8 (other i : Nat)).wf = true) (ha : (Lit.int .u64 a).wf = true) :
    Calls Try.prog 6 #[.agg (tabV .u8 16 key), .agg (tabV .u8 8 nonce), .agg (tabV .u8 8 other), .int .u64 a] w fun e w' => e = .returned (.bool true) ∧ Ext w w' := by
  obtain ⟨a0, a1⟩ := bd_u64 ha
  obtain ⟨i, rfl⟩ := Int.eq_ofNat_of_zero_le a0
  have hi : i < 18446744073709551616 := by omega
  have HK := Lib.hid (byt_wf hk')
  have HN := Lib.hid (byt8_wf hn')
  have HO := Lib.hid (byt8_wf ho')
  obtain ⟨h0, h1, h2⟩ := new3 w (.cells (tabV .u8 16 key) 22) (.cells (tabV .u8 8 nonce) 23) (.cells (tabV .u8 8 other) 23)
  have HX := Lib.hid (((Ext.alloc w (.cells (tabV .u8 16 key) 22)).tr (Ext.alloc _ (.cells (tabV .u8 8 nonce) 23))).tr (Ext.alloc _ (.cells (tabV .u8 8 other) 23)))
  have H0 := Lib.hid (show Arr _ w.heap.size 22 .u8 16 key from h0)
  have H1 := Lib.hid (show Arr _ (w.heap.size + 1) 23 .u8 8 nonce from h1)
  have H2 := Lib.hid (show Arr _ (w.heap.size + 1 + 1) 23 .u8 8 other from h2)
  clear h0 h1 h2 hk' hn' ho' ha a0 a1
  go_enter Try.func6, Try.ntmps6
  go_wp2_with fail
  refine (awake_c _).mono ?_
  rintro e w1 ⟨rfl, hx1⟩
  have HK1 := Lib.hid (H0.out.ext hx1)
  have HN1 := Lib.hid (H1.out.ext hx1)
  have HO1 := Lib.hid (H2.out.ext hx1)
  have HX1 := Lib.hid (HX.out.tr hx1)
  clear hx1 H0 H1 H2 HX
  go_wp2_with (first
    | refine wpList_load_arr rfl 22 (.tmp 4) rfl w.heap.size rfl 22 .u8 16 key _ HK1.out Try.underlying22 size_bk ?_
    | refine wpList_load_arr rfl 23 (.tmp 5) rfl (w.heap.size + 1) rfl 23 .u8 8 nonce _ HN1.out Try.underlying23 size_nc ?_)
  refine (block_c key nonce i HK.out HN.out hi _).mono ?_
  rintro e w2 ⟨rfl, hx2⟩
  have HK2 := Lib.hid (HK1.out.ext hx2)
  have HN2 := Lib.hid (HN1.out.ext hx2)
  have HO2 := Lib.hid (HO1.out.ext hx2)
  have HX2 := Lib.hid (HX1.out.tr hx2)
  have HZ2 := Lib.hid (Arr.new w2 22 .u8 16 (fun _ => 0))
  clear hx2 HK1 HN1 HO1 HX1
  obtain ⟨fa, hfa⟩ : ∃ fa, fa = cblk key nonce i := ⟨_, rfl⟩
  rw [← hfa]
  have HFA := Lib.hid hfa
  clear hfa
  go_wp2_with (first
    | (refine wpList_store_arr' rfl rfl 22 (.tmp 9) (.tmp 16) rfl w2.heap.size .u8 16 fa rfl rfl 22 _ HZ2.out size_bk tabV_size ?_
       intro w3 hA3 hG3
       have hx3 : Ext w2 w3 := grown_new (Ext.alloc _ _) hG3 (fun g hg => by simp at hg; omega)
       have HA3 := Lib.hid hA3
       have HK3 := Lib.hid (HK2.out.ext hx3)
       have HN3 := Lib.hid (HN2.out.ext hx3)
       have HO3 := Lib.hid (HO2.out.ext hx3)
       have HX3 := Lib.hid (HX2.out.tr hx3)
       clear hA3 hG3 hx3)
    | refine wpList_load_arr rfl 22 (.tmp 4) rfl w.heap.size rfl 22 .u8 16 key _ HK3.out Try.underlying22 size_bk ?_
    | refine wpList_load_arr rfl 23 (.tmp 6) rfl (w.heap.size + 1 + 1) rfl 23 .u8 8 other _ HO3.out Try.underlying23 size_nc ?_)
  obtain ⟨ga, hga⟩ : ∃ ga, ga = w2.heap.size := ⟨_, rfl⟩
  rw [← hga] at HA3 ⊢
  refine (block_c key other i HK.out HO.out hi _).mono ?_
  rintro e w4 ⟨rfl, hx4⟩
  have HA4 := Lib.hid (HA3.out.ext hx4)
  have HK4 := Lib.hid (HK3.out.ext hx4)
  have HN4 := Lib.hid (HN3.out.ext hx4)
  have HO4 := Lib.hid (HO3.out.ext hx4)
  have HX4 := Lib.hid (HX3.out.tr hx4)
  have HZ4 := Lib.hid (Arr.new w4 22 .u8 16 (fun _ => 0))
  clear hx4 HK3 HN3 HO3 HX3 HA3 HK2 HN2 HO2 HX2 HZ2 hga
  obtain ⟨fb, hfb⟩ : ∃ fb, fb = cblk key other i := ⟨_, rfl⟩
  rw [← hfb]
  have HFB := Lib.hid hfb
  clear hfb
  go_wp2_with (refine wpList_store_arr' rfl rfl 22 (.tmp 10) (.tmp 20) rfl w4.heap.size .u8 16 fb rfl rfl 22 _ HZ4.out size_bk tabV_size ?_
               intro w5 hB5 hG5
               have hx5 : Ext w4 w5 := grown_new (Ext.alloc _ _) hG5 (fun g hg => by simp at hg; omega)
               have HB5 := Lib.hid hB5
               have HA5 := Lib.hid (HA4.out.ext hx5)
               have HK5 := Lib.hid (HK4.out.ext hx5)
               have HN5 := Lib.hid (HN4.out.ext hx5)
               have HO5 := Lib.hid (HO4.out.ext hx5)
               have HX5 := Lib.hid (HX4.out.tr hx5)
               clear hB5 hG5 hx5)
  obtain ⟨gb, hgb⟩ : ∃ gb, gb = w4.heap.size := ⟨_, rfl⟩
  rw [← hgb] at HB5 ⊢
  obtain ⟨j, hj⟩ : ∃ j, j = (i + 1) % 18446744073709551616 := ⟨_, rfl⟩
  have hjl : j < 18446744073709551616 := by omega
  have q1 : IntKind.u64.wrap ((i : Int) + 1) = (j : Int) := by rw [IntKind.wrap_u64]; omega
  have E1 : eqb 16 fa fb = eqb 8 nonce other := by
    rw [HFA.out, HFB.out]
    by_cases h : ∀ t, t < 8 → nonce t = other t
    · rw [eqb_true.2 h]
      refine eqb_true.2 (enc_same (Same.refl key) (fun t ht => ?_))
      unfold cin
      by_cases h8 : t < 8
      · rw [if_pos h8, if_pos h8, h t h8]
      · rw [if_neg h8, if_neg h8]
    · rw [eqb_false h]
      exact eqb_false fun h' => h (cin_inj hi hi (enc_inj HK.out (cin_byt HN.out i) (cin_byt HO.out i) h')).1
  have E2 : eqb 16 fa (cblk key nonce j) = false := by
    rw [HFA.out]
    exact eqb_false fun h' => by
      have := (cin_inj hi hjl (enc_inj HK.out (cin_byt HN.out i) (cin_byt HN.out j) h')).2
      omega
  have E3 : eqb 16 fa (cblk key nonce i) = true := by rw [HFA.out]; exact eqb_true.2 (fun _ _ => rfl)
  obtain ⟨bb, hbb⟩ : ∃ bb, bb = eqb 8 nonce other := ⟨_, rfl⟩
  rw [← hbb] at E1
  have E1 := Lib.hid E1
  have E2 := Lib.hid E2
  have E3 := Lib.hid E3
  have HBB := Lib.hid hbb
  obtain ⟨wd, hwd⟩ : ∃ wd, wd = w5.drew := ⟨_, rfl⟩
  have xd : Ext w5 wd := by rw [hwd]; exact Ext.drew _
  have HA6 := Lib.hid (HA5.out.ext xd)
  have HB6 := Lib.hid (HB5.out.ext xd)
  have HK6 := Lib.hid (HK5.out.ext xd)
  have HN6 := Lib.hid (HN5.out.ext xd)
  have HO6 := Lib.hid (HO5.out.ext xd)
  have HX6 := Lib.hid (HX5.out.tr xd)
  have HWD := Lib.hid hwd
  clear hj hgb hbb HK4 HN4 HO4 HX4 HA4 HZ4 HK5 HN5 HO5 HX5 HA5 HB5 xd hwd
  refine wp_region_ord 26 (fun W => Ext wd W) (by kernel_rfl) (by kernel_rfl) (by decide) (by kernel_rfl) (by rw [HWD.out]; exact Ext.refl _) ?_
  simp only [List.take_succ_cons, List.take_zero, List.drop_succ_cons, List.drop_zero]
  refine wpTxt_step (.agg (tabV .u8 16 (fa))) (fun W K hS hK => wp_load_arr 22 (.tmp 9) rfl (ga) rfl .u8 16 (fa) _ _ (HA6.out.ext hS) Try.underlying22 size_bk (hK _ hS)) rfl ?_
  simp only [Act.put, List.setIfInBounds_toArray, List.set_cons_zero, List.set_cons_succ]
  refine wpTxt_step (.agg (tabV .u8 16 (key))) (fun W K hS hK => wp_load_arr 22 (.tmp 4) rfl (w.heap.size) rfl .u8 16 (key) _ _ (HK6.out.ext hS) Try.underlying22 size_bk (hK _ hS)) rfl ?_
  simp only [Act.put, List.setIfInBounds_toArray, List.set_cons_zero, List.set_cons_succ]
  refine wpTxt_step (.agg (tabV .u8 8 (nonce))) (fun W K hS hK => wp_load_arr 23 (.tmp 5) rfl (w.heap.size + 1) rfl .u8 8 (nonce) _ _ (HN6.out.ext hS) Try.underlying23 size_nc (hK _ hS)) rfl ?_
  simp only [Act.put, List.setIfInBounds_toArray, List.set_cons_zero, List.set_cons_succ]
  repeat (refine wpTxt_step ?_ (fun W K hS hK => ?_) rfl ?_; rotate_left; (simp only [Act.put, List.setIfInBounds_toArray, List.set_cons_zero, List.set_cons_succ] at hK; go_simp; exact hK _ hS); simp only [Act.put, List.setIfInBounds_toArray, List.set_cons_zero, List.set_cons_succ])
  refine wpTxt_step ?_ (fun W K hS hK => ?_) rfl ?_
  rotate_left
  · simp only [Act.put, List.setIfInBounds_toArray, List.set_cons_zero, List.set_cons_succ] at hK
    go_simp
    refine (box_c _).mono ?_
    rintro e W' ⟨rfl, hx'⟩
    exact hK _ (hS.tr hx')
  simp only [Act.put, List.setIfInBounds_toArray, List.set_cons_zero, List.set_cons_succ]
  refine wpTxt_step ?_ (fun W K hS hK => ?_) rfl ?_
  rotate_left
  · simp only [Act.put, List.setIfInBounds_toArray, List.set_cons_zero, List.set_cons_succ] at hK
    go_simp
    refine (rblock_c key nonce i HK.out HN.out hi _).mono ?_
    rintro e W' ⟨rfl, hx'⟩
    exact hK _ (hS.tr hx')
  simp only [Act.put, List.setIfInBounds_toArray, List.set_cons_zero, List.set_cons_succ]
  refine wpTxt_step (.bool true) (fun W K hS hK => wp_eql_dec 22 22 (.tmp 21) (.tmp 26) rfl .u8 16 fa (cblk key nonce i) rfl rfl 5 Try.underlying22 Try.underlying5 size_u8 cells_u8 noGuard_bk (by rw [E3.out]; exact hK _ hS)) rfl ?_
  simp only [Act.put, List.setIfInBounds_toArray, List.set_cons_zero, List.set_cons_succ]
  repeat (refine wpTxt_step ?_ (fun W K hS hK => ?_) rfl ?_; rotate_left; (simp only [Act.put, List.setIfInBounds_toArray, List.set_cons_zero, List.set_cons_succ] at hK; go_simp; exact hK _ hS); simp only [Act.put, List.setIfInBounds_toArray, List.set_cons_zero, List.set_cons_succ])
  refine wpTxt_step (.agg (tabV .u8 16 (fa))) (fun W K hS hK => wp_load_arr 22 (.tmp 9) rfl (ga) rfl .u8 16 (fa) _ _ (HA6.out.ext hS) Try.underlying22 size_bk (hK _ hS)) rfl ?_
  simp only [Act.put, List.setIfInBounds_toArray, List.set_cons_zero, List.set_cons_succ]
  refine wpTxt_step (.agg (tabV .u8 16 (fb))) (fun W K hS hK => wp_load_arr 22 (.tmp 10) rfl (gb) rfl .u8 16 (fb) _ _ (HB6.out.ext hS) Try.underlying22 size_bk (hK _ hS)) rfl ?_
  simp only [Act.put, List.setIfInBounds_toArray, List.set_cons_zero, List.set_cons_succ]
  refine wpTxt_step (.bool bb) (fun W K hS hK => wp_eql_dec 22 22 (.tmp 29) (.tmp 30) rfl .u8 16 fa fb rfl rfl 5 Try.underlying22 Try.underlying5 size_u8 cells_u8 noGuard_bk (by rw [E1.out]; exact hK _ hS)) rfl ?_
  simp only [Act.put, List.setIfInBounds_toArray, List.set_cons_zero, List.set_cons_succ]
  refine wpTxt_step (.agg (tabV .u8 8 (nonce))) (fun W K hS hK => wp_load_arr 23 (.tmp 5) rfl (w.heap.size + 1) rfl .u8 8 (nonce) _ _ (HN6.out.ext hS) Try.underlying23 size_nc (hK _ hS)) rfl ?_
  simp only [Act.put, List.setIfInBounds_toArray, List.set_cons_zero, List.set_cons_succ]
  refine wpTxt_step (.agg (tabV .u8 8 (other))) (fun W K hS hK => wp_load_arr 23 (.tmp 6) rfl (w.heap.size + 1 + 1) rfl .u8 8 (other) _ _ (HO6.out.ext hS) Try.underlying23 size_nc (hK _ hS)) rfl ?_
  simp only [Act.put, List.setIfInBounds_toArray, List.set_cons_zero, List.set_cons_succ]
  refine wpTxt_step (.bool bb) (fun W K hS hK => wp_eql_dec 23 23 (.tmp 32) (.tmp 33) rfl .u8 8 nonce other rfl rfl 5 Try.underlying23 Try.underlying5 size_u8 cells_u8 noGuard_nc (by rw [← HBB.out]; exact hK _ hS)) rfl ?_
  simp only [Act.put, List.setIfInBounds_toArray, List.set_cons_zero, List.set_cons_succ]
  repeat (refine wpTxt_step ?_ (fun W K hS hK => ?_) rfl ?_; rotate_left; (simp only [Act.put, List.setIfInBounds_toArray, List.set_cons_zero, List.set_cons_succ] at hK; go_simp; exact hK _ hS); simp only [Act.put, List.setIfInBounds_toArray, List.set_cons_zero, List.set_cons_succ])
  refine wpTxt_step (.agg (tabV .u8 16 (fa))) (fun W K hS hK => wp_load_arr 22 (.tmp 9) rfl (ga) rfl .u8 16 (fa) _ _ (HA6.out.ext hS) Try.underlying22 size_bk (hK _ hS)) rfl ?_
  simp only [Act.put, List.setIfInBounds_toArray, List.set_cons_zero, List.set_cons_succ]
  refine wpTxt_step (.agg (tabV .u8 16 (key))) (fun W K hS hK => wp_load_arr 22 (.tmp 4) rfl (w.heap.size) rfl .u8 16 (key) _ _ (HK6.out.ext hS) Try.underlying22 size_bk (hK _ hS)) rfl ?_
  simp only [Act.put, List.setIfInBounds_toArray, List.set_cons_zero, List.set_cons_succ]
  refine wpTxt_step (.agg (tabV .u8 8 (nonce))) (fun W K hS hK => wp_load_arr 23 (.tmp 5) rfl (w.heap.size + 1) rfl .u8 8 (nonce) _ _ (HN6.out.ext hS) Try.underlying23 size_nc (hK _ hS)) rfl ?_
  simp only [Act.put, List.setIfInBounds_toArray, List.set_cons_zero, List.set_cons_succ]
  repeat (refine wpTxt_step ?_ (fun W K hS hK => ?_) rfl ?_; rotate_left; (simp only [Act.put, List.setIfInBounds_toArray, List.set_cons_zero, List.set_cons_succ] at hK; go_simp; exact hK _ hS); simp only [Act.put, List.setIfInBounds_toArray, List.set_cons_zero, List.set_cons_succ])
  refine wpTxt_step ?_ (fun W K hS hK => ?_) rfl ?_
  rotate_left
  · simp only [Act.put, List.setIfInBounds_toArray, List.set_cons_zero, List.set_cons_succ] at hK
    go_simp
    refine (block_c key nonce j HK.out HN.out hjl _).mono ?_
    rintro e W' ⟨rfl, hx'⟩
    exact hK _ (hS.tr hx')
  simp only [Act.put, List.setIfInBounds_toArray, List.set_cons_zero, List.set_cons_succ]
  refine wpTxt_step (.bool true) (fun W K hS hK => wp_neq_dec 22 22 (.tmp 38) (.tmp 43) rfl .u8 16 fa (cblk key nonce j) rfl rfl 5 Try.underlying22 Try.underlying5 size_u8 cells_u8 noGuard_bk (by rw [E2.out]; exact hK _ hS)) rfl ?_
  simp only [Act.put, List.setIfInBounds_toArray, List.set_cons_zero, List.set_cons_succ]
  repeat (refine wpTxt_step ?_ (fun W K hS hK => ?_) rfl ?_; rotate_left; (simp only [Act.put, List.setIfInBounds_toArray, List.set_cons_zero, List.set_cons_succ] at hK; go_simp; exact hK _ hS); simp only [Act.put, List.setIfInBounds_toArray, List.set_cons_zero, List.set_cons_succ])
  refine wpTxt_nil ?_
  intro W hS
  have HX7 := Lib.hid (HX6.out.tr hS)
  clear hS
  go_wp2_with fail
  go_ret
  exact ⟨rfl, HX7.out⟩
end Go.Proofs.Ytdmfajcbbolfiaa
