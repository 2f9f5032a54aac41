/-
  Package aes: the next round key; all round keys.
-/
import Derived.Test.YtdmfajcbbolfiaaAesC
namespace Go.Proofs.Ytdmfajcbbolfiaa
open Go.RowKit

/-- the key while its first r bytes are done -/
def nxa (f : Bk) (r : Nat) : Bk := fun j => if j < r then f j ^^^ sb (f (12 + (j + 1) % 4)) else f j
/-- the key while its first i bytes are done, i ≥ 4 -/
def nxb (f : Bk) (c i : Nat) : Bk := fun j => if j < i then nx f c j else f j
theorem nx_low (f : Bk) (c : Nat) {j : Nat} (h : j < 4) : nx f c j = (f j ^^^ sb (f (12 + (j + 1) % 4))) ^^^ (if j = 0 then c else 0) := by
  unfold nx
  rw [show j / 4 = 0 by omega, show j % 4 = j by omega, nxc]
theorem nx_high (f : Bk) (c : Nat) {j : Nat} (h : 4 ≤ j) : nx f c j = f j ^^^ nx f c (j - 4) := by
  unfold nx
  obtain ⟨k, hk⟩ : ∃ k, j / 4 = k + 1 := ⟨j / 4 - 1, by omega⟩
  rw [hk, nxc, show (j - 4) / 4 = k by omega, show (j - 4) % 4 = j % 4 by omega, show 4 * (k + 1) + j % 4 = j by omega]
set_option maxRecDepth 100000 in
set_option maxHeartbeats 2000000 in
theorem next_c (f : Bk) (hf : Byt f) (c : Nat) (hc : c < 256) (w : World) :
    Calls Try.prog 34 #[.agg (tabV .u8 16 f), .int .u8 c] w fun e w' => e = .returned (.agg (tabV .u8 16 (nx f c))) ∧ Ext w w' := by
  have HF := Lib.hid hf
  clear hf
  go_enter Try.func34, Try.ntmps34
  go_wp2_with fail
  go_loopw [7] (fun v wr => ∃ r : Nat, r ≤ 4 ∧ v = .int .i64 r ∧ Arr wr w.heap.size 22 .u8 16 (nxa f r) ∧ Arr wr (w.heap.size + 1) 22 .u8 16 (fun _ => 0) ∧ Ext w wr) (fun v _ => 4 - (intOf v).toNat)
  case atStart =>
    obtain ⟨h0, h1⟩ := two_new w (.cells (tabV .u8 16 f) 22) (.cells (tabV .u8 16 (fun _ => 0)) 22)
    refine ⟨0, by omega, rfl, ?_, h1, (Ext.alloc _ _).tr (Ext.alloc _ _)⟩
    refine Arr.congr (f := f) h0 (fun i hi => by unfold nxa; simp)
  case round =>
    obtain ⟨r, hr, rfl, hA, hB, hx⟩ := hrel
    by_cases hlt : r < 4
    · obtain ⟨wd, hwd⟩ : ∃ wd, wd = wr.drew := ⟨_, rfl⟩
      have xd : Ext wr wd := by rw [hwd]; exact Ext.drew _
      obtain ⟨s1, hs1⟩ : ∃ s1, s1 = (r + 1) % 4 := ⟨_, rfl⟩
      have hA1 := hA.ext xd
      have c0 := hA1.cell (i := r) (by omega)
      have c1 := hA1.cell (i := 12 + s1) (by omega)
      have fr := hA1.free r
      unfold nxa at c0 c1
      rw [if_neg (by omega)] at c0 c1
      have b0 := HF.out r (by omega)
      have b1 := HF.out (12 + s1) (by omega)
      have b2 := sb_lt _ b1
      have q0 := u8_xor_nat _ _ b0 b2
      have m1 : ((r : Int) + 1).tmod 4 = (s1 : Int) := by rw [Int.tmod_eq_emod_of_nonneg (by omega)]; omega
      have q1 : IntKind.i64.wrap ((r : Int) + 1) = (r : Int) + 1 := IntWalk.i64_in _ (by omega)
      have q2 : IntKind.i64.wrap (12 + (s1 : Int)) = 12 + (s1 : Int) := IntWalk.i64_in _ (by omega)
      have l1 : (12 : Int) + (s1 : Int) < 16 := by omega
      have t1 : ((12 : Int) + (s1 : Int)).toNat = 12 + s1 := by omega
      have i1 : (r : Int) < 4 := by omega
      have i2 : (r : Int) < 16 := by omega
      have HA := Lib.hid hA1
      have HB := Lib.hid (hB.ext xd)
      have HX := Lib.hid (hx.tr xd)
      have HWD := Lib.hid hwd
      have HS := Lib.hid hs1
      clear hA hB hx hA1 xd hwd hs1
      go_wp2_with fail
      refine wp_region_ord 11 (fun W => W = wd) (by kernel_rfl) (by kernel_rfl) (by decide) (by kernel_rfl) HWD.out.symm ?_
      simp only [List.take_succ_cons, List.take_zero, List.drop_succ_cons, List.drop_zero]
      repeat (refine wpTxt_stay ?_ (fun K hK => ?_) rfl ?_; rotate_left; (simp only [Act.put, List.setIfInBounds_toArray, List.set_cons_zero, List.set_cons_succ] at hK; go_simp; exact hK); simp only [Act.put, List.setIfInBounds_toArray, List.set_cons_zero, List.set_cons_succ])
      refine wpTxt_stay ?_ (fun K hK => ?_) rfl ?_
      rotate_left
      · simp only [Act.put, List.setIfInBounds_toArray, List.set_cons_zero, List.set_cons_succ] at hK
        go_simp
        refine (sub_c _ b1 _).mono ?_
        rintro e v ⟨rfl, rfl⟩
        exact hK
      simp only [Act.put, List.setIfInBounds_toArray, List.set_cons_zero, List.set_cons_succ]
      repeat (refine wpTxt_stay ?_ (fun K hK => ?_) rfl ?_; rotate_left; (simp only [Act.put, List.setIfInBounds_toArray, List.set_cons_zero, List.set_cons_succ] at hK; go_simp; exact hK); simp only [Act.put, List.setIfInBounds_toArray, List.set_cons_zero, List.set_cons_succ])
      refine wpTxt_nil ?_
      rintro W rfl
      go_wp2_with fail
      refine ⟨⟨r + 1, by omega, by go_num, HA.out.to (by omega) ?_ (fun j hj hne => ?_), HB.out.other (by omega) _ _, ext_setCell HX.out (by simp) _⟩, ?_⟩
      · unfold nxa
        rw [if_pos (by omega), HS.out]
      · unfold nxa
        by_cases h1 : j < r
        · rw [if_pos h1, if_pos (by omega)]
        · rw [if_neg h1, if_neg (by omega)]
      · simp only [intOf]
        omega
    · have e4 : r = 4 := by omega
      subst e4
      have c0 := hA.cell (i := 0) (by decide)
      have fr := hA.free 0
      have b0 : nxa f 4 0 < 256 := by
        unfold nxa
        rw [if_pos (by decide)]
        exact xor8 (HF.out _ (by decide)) (sb_lt _ (HF.out _ (by decide)))
      have q0 := u8_xor_nat _ _ b0 hc
      obtain ⟨x, hxx⟩ : ∃ x, x = nxa f 4 0 := ⟨_, rfl⟩
      rw [← hxx] at c0 b0 q0
      have HXX := Lib.hid hxx
      have HA := Lib.hid hA
      have HB := Lib.hid hB
      have HX := Lib.hid hx
      clear hA hB hx hxx
      go_wp2_with fail
      have h1 : Arr (wr.setCell ⟨w.heap.size, 0, none⟩ (.int .u8 (x ^^^ c : Nat))) w.heap.size 22 .u8 16 (nxb f c 4) := by
        refine HA.out.to (by decide) ?_ (fun j hj hne => ?_)
        · unfold nxb
          rw [if_pos (by decide), nx_low _ _ (by decide), HXX.out]
          unfold nxa
          rfl
        · unfold nxb nxa
          by_cases h1 : j < 4
          · rw [if_pos h1, if_pos h1, nx_low _ _ h1, if_neg hne, Nat.xor_zero]
          · rw [if_neg h1, if_neg h1]
      have h2 := HB.out.other (g' := w.heap.size) (by omega) 0 (.int .u8 (x ^^^ c : Nat))
      have h3 := ext_setCell HX.out (p := ⟨w.heap.size, 0, none⟩) (by simp) (.int .u8 (x ^^^ c : Nat))
      obtain ⟨wo, hwo⟩ : ∃ wo, wo = wr.setCell ⟨w.heap.size, 0, none⟩ (.int .u8 (x ^^^ c : Nat)) := ⟨_, rfl⟩
      rw [← hwo] at h1 h2 h3 ⊢
      have HA := Lib.hid h1
      have HB := Lib.hid h2
      have HX := Lib.hid h3
      clear h1 h2 h3 hwo c0 fr b0 q0 HXX
      go_loopw [6] (fun v wi => ∃ i : Nat, 4 ≤ i ∧ i ≤ 16 ∧ v = .int .i64 i ∧ Arr wi w.heap.size 22 .u8 16 (nxb f c i) ∧ Arr wi (w.heap.size + 1) 22 .u8 16 (fun _ => 0) ∧ Ext w wi) (fun v _ => 16 - (intOf v).toNat)
      case atStart => exact ⟨4, by omega, by omega, rfl, HA.out, HB.out, HX.out⟩
      case round =>
        obtain ⟨i, h4, hi, rfl, hA, hB, hx⟩ := hrel
        by_cases hlt : i < 16
        · obtain ⟨wd, hwd⟩ : ∃ wd, wd = wr.drew := ⟨_, rfl⟩
          have xd : Ext wr wd := by rw [hwd]; exact Ext.drew _
          have hA1 := hA.ext xd
          have c0 := hA1.cell (i := i) (by omega)
          have c1 := hA1.cell (i := i - 4) (by omega)
          have fr := hA1.free i
          unfold nxb at c0 c1
          rw [if_neg (by omega)] at c0
          rw [if_pos (by omega)] at c1
          have b0 := HF.out i (by omega)
          have b1 := nx_byt HF.out hc (i - 4) (by omega)
          have q0 := u8_xor_nat _ _ b0 b1
          have q1 : IntKind.i64.wrap ((i : Int) - 4) = (i : Int) - 4 := IntWalk.i64_in _ (by omega)
          have t1 : ((i : Int) - 4).toNat = i - 4 := by omega
          have i1 : (i : Int) < 16 := by omega
          have i2 : (i : Int) - 4 < 16 := by omega
          have i3 : 0 ≤ (i : Int) - 4 := by omega
          have i4 : 4 ≤ (i : Int) := by omega
          have HA := Lib.hid hA1
          have HB := Lib.hid (hB.ext xd)
          have HX := Lib.hid (hx.tr xd)
          have HWD := Lib.hid hwd
          clear hA hB hx hA1 xd hwd
          go_wp2_with fail
          refine wp_region_ord 8 (fun W => W = wd) (by kernel_rfl) (by kernel_rfl) (by decide) (by kernel_rfl) HWD.out.symm ?_
          simp only [List.take_succ_cons, List.take_zero, List.drop_succ_cons, List.drop_zero]
          repeat (refine wpTxt_stay ?_ (fun K hK => ?_) rfl ?_; rotate_left; (simp only [Act.put, List.setIfInBounds_toArray, List.set_cons_zero, List.set_cons_succ] at hK; go_simp; exact hK); simp only [Act.put, List.setIfInBounds_toArray, List.set_cons_zero, List.set_cons_succ])
          refine wpTxt_nil ?_
          rintro W rfl
          go_wp2_with fail
          refine ⟨⟨i + 1, by omega, by omega, by go_num, HA.out.to (by omega) ?_ (fun j hj hne => ?_), HB.out.other (by omega) _ _, ext_setCell HX.out (by simp) _⟩, ?_⟩
          · unfold nxb
            rw [if_pos (by omega), nx_high f c h4]
          · unfold nxb
            by_cases h1 : j < i
            · rw [if_pos h1, if_pos (by omega)]
            · rw [if_neg h1, if_neg (by omega)]
          · simp only [intOf]
            omega
        · have e16 : i = 16 := by omega
          subst e16
          have HA := Lib.hid (hA.congr (f' := nx f c) (fun j hj => by unfold nxb; rw [if_pos hj]))
          have HB := Lib.hid hB
          have HX := Lib.hid hx
          clear hA hB hx
          go_wp2_with (first
            | refine wpList_load_arr rfl 22 (.tmp 2) rfl w.heap.size rfl 22 .u8 16 (nx f c) _ HA.out Try.underlying22 size_bk ?_
            | (refine wpList_store_arr' rfl rfl 22 (.tmp 4) (.tmp 41) rfl (w.heap.size + 1) .u8 16 (nx f c) rfl rfl 22 _ HB.out size_bk tabV_size ?_; intro w5 hA5 hG5))
          refine bodyPost_ret (v := .agg (tabV .u8 16 (nx f c))) ?_ rfl ⟨rfl, grown_new HX.out hG5 (fun g hg => by simp at hg; omega)⟩
          exact results_cell_row rfl _ _ _ _ _ _ _ rfl hA5 Try.underlying22 rfl (by rw [tabV_size]; exact size_bk)
end Go.Proofs.Ytdmfajcbbolfiaa
