/-
  AesApart: different blocks have different encryptions under the same key.
-/
import Derived.Test.YtafjpebgcgliaaaAesI
import Derived.Test.YtafjpebgcgliaaaEqD
namespace Go.Proofs.Ytafjpebgcgliaaa
open Go.RowKit

theorem enc_inj {k b c : Bk} (hk : Byt k) (hb : Byt b) (hc : Byt c) (h : Same (enc k b) (enc k c)) : Same b c :=
  (dec_enc hk hb).symm.trans ((dec_same (Same.refl k) h).trans (dec_enc hk hc))
set_option maxRecDepth 100000 in
set_option maxHeartbeats 4000000 in
theorem aesApart_walk (k b : Nat → Nat) (a : Int) (w : World) (hk : ∀ i, i < 16 → (Lit.int .u8 (k i : Nat)).wf = true) (hb : ∀ i, i < 16 → (Lit.int .u8 (b i : Nat)).wf = true) (ha : (Lit.int .u8 a).wf = true) :
    Calls Try.prog 7 #[.agg (tabV .u8 16 k), .agg (tabV .u8 16 b), .int .u8 a] w fun e w' => e = .returned (.bool true) ∧ Ext w w' := by
  obtain ⟨a0, a1⟩ := bd_u8 ha
  obtain ⟨n, rfl⟩ := Int.eq_ofNat_of_zero_le a0
  have hn : n < 256 := by omega
  have HK := Lib.hid (byt_of hk)
  have HB := Lib.hid (byt_of hb)
  obtain ⟨h0, h1⟩ := two_new w (.cells (tabV .u8 16 k) 22) (.cells (tabV .u8 16 b) 22)
  have hx0 := (Ext.alloc w (.cells (tabV .u8 16 k) 22)).tr (Ext.alloc _ (.cells (tabV .u8 16 b) 22))
  have H0 := Lib.hid (show Arr _ w.heap.size 22 .u8 16 k from h0)
  have H1 := Lib.hid (show Arr _ (w.heap.size + 1) 22 .u8 16 b from h1)
  have HX0 := Lib.hid hx0
  clear hk hb h0 h1 hx0 ha a0 a1
  go_enter Try.func7, Try.ntmps7
  go_wp2_with fail
  refine (awake_c _).mono ?_
  rintro e w1 ⟨rfl, hx1⟩
  have HA1 := Lib.hid (H0.out.ext hx1)
  have HB1 := Lib.hid (H1.out.ext hx1)
  have HX1 := Lib.hid (HX0.out.tr hx1)
  have HZ := Lib.hid (Arr.new w1 22 .u8 16 (fun _ => 0))
  clear hx1 H0 H1 HX0
  obtain ⟨i, hi⟩ : ∃ i, i = n % 128 := ⟨_, rfl⟩
  have m1 : (n : Int) % 128 = (i : Int) := by omega
  have m2 : (n : Int).tmod 128 = (i : Int) := by rw [Int.tmod_eq_emod_of_nonneg (by omega)]; omega
  obtain ⟨j, hj⟩ : ∃ j, j = i / 8 := ⟨_, rfl⟩
  obtain ⟨s, hs⟩ : ∃ s, s = i % 8 := ⟨_, rfl⟩
  have m3 : (i : Int) / 8 = (j : Int) := by omega
  have m4 : (i : Int) % 8 = (s : Int) := by omega
  have l1 : (j : Int) < 16 := by omega
  have hjl : j < 16 := by omega
  have hsl : s < 8 := by omega
  have l2 : (s : Int) < 8 := by omega
  clear hi hj hs
  go_wp2_with (first
    | refine wpList_load_arr rfl 22 (.tmp 4) rfl (w.heap.size + 1) rfl 22 .u8 16 b _ HB1.out Try.underlying22 size_bk ?_
    | (refine wpList_store_arr' rfl rfl 22 (.tmp 7) (.tmp 11) rfl w1.heap.size .u8 16 b rfl rfl 22 _ HZ.out size_bk tabV_size ?_
       intro w2 hA2 hG2
       have ho := hA2.cell (i := j) hjl
       have hfo := hA2.free j
       have HO2 := Lib.hid hA2
       have HA2 := Lib.hid (show Arr w2 w.heap.size 22 .u8 16 k from grown_get hG2 (HA1.out.ext (Ext.alloc _ _)) (by have := HA1.out.lt; simp; omega))
       have HB2 := Lib.hid (show Arr w2 (w.heap.size + 1) 22 .u8 16 b from grown_get hG2 (HB1.out.ext (Ext.alloc _ _)) (by have := HB1.out.lt; simp; omega))
       have HX2 := Lib.hid (HX1.out.tr (grown_new (Ext.alloc _ _) hG2 (fun g hg => by simp at hg; omega)))
       have HG := Lib.hid (show w.heap.size + 1 < w1.heap.size from HB1.out.lt)
       clear hA2 hG2))
  obtain ⟨gw, hgw⟩ : ∃ gw, gw = w1.heap.size := ⟨_, rfl⟩
  have hx2 : 2 ^ s < 256 := Nat.pow_lt_pow_right (a := 2) (m := s) (n := 8) (by decide) hsl
  have hx3 : 0 < 2 ^ s := Nat.pow_pos (by decide)
  have hx1 : bits .xor .u8 (b j : Nat) ((2 : Int) ^ s % 256) = ((b j ^^^ 2 ^ s : Nat) : Int) := by
    rw [show ((2 : Int) ^ s % 256) = ((2 ^ s : Nat) : Int) by push_cast; exact Int.emod_eq_of_lt (Int.pow_nonneg (by decide)) (by exact_mod_cast hx2), u8_xor_nat _ _ (HB.out j hjl) hx2]
  rw [hx1]
  obtain ⟨z, hz⟩ : ∃ z, z = (2 : Int) ^ s % 256 := ⟨_, rfl⟩
  rw [← hz]
  obtain ⟨c, hc⟩ : ∃ c : Bk, c = fun m => if m = j then b j ^^^ 2 ^ s else b m := ⟨_, rfl⟩
  have hcb : Byt c := fun m hm => by
    rw [hc]
    show (if m = j then b j ^^^ 2 ^ s else b m) < 256
    split
    · exact xor8 (HB.out j hjl) hx2
    · exact HB.out m hm
  have hne : eqb 16 (enc k b) (enc k c) = false := eqb_false fun h => by
    have h1 := enc_inj HK.out HB.out hcb h j hjl
    rw [hc] at h1
    simp only [if_true] at h1
    have h2 : b j ^^^ (b j ^^^ 2 ^ s) = 0 := by rw [← h1, Nat.xor_self]
    rw [← Nat.xor_assoc, Nat.xor_self, Nat.zero_xor] at h2
    omega
  rw [← hgw] at HO2 HG ⊢
  have HA3 := Lib.hid (HA2.out.other (g' := gw) (by have := HG.out; omega) j (.int .u8 ((b j ^^^ 2 ^ s : Nat) : Int)))
  have HB3 := Lib.hid (HB2.out.other (g' := gw) (by have := HG.out; omega) j (.int .u8 ((b j ^^^ 2 ^ s : Nat) : Int)))
  have HO3 := Lib.hid (HO2.out.to hjl (f' := c) (v := ((b j ^^^ 2 ^ s : Nat) : Int)) (by rw [hc]; simp) (fun m _ hm => by rw [hc]; simp [hm]))
  have HX3 := Lib.hid (ext_setCell HX2.out (p := ⟨gw, j, none⟩) (by have := HG.out; simp; omega) (.int .u8 ((b j ^^^ 2 ^ s : Nat) : Int)))
  have HNE := Lib.hid hne
  have HCB := Lib.hid hcb
  rw [← hz] at hx1
  obtain ⟨w3, hw3⟩ : ∃ w3, w3 = w2.setCell ⟨gw, j, none⟩ (.int .u8 ((b j ^^^ 2 ^ s : Nat) : Int)) := ⟨_, rfl⟩
  rw [← hw3] at HA3 HB3 HO3 HX3 ⊢
  obtain ⟨wd, hwd⟩ : ∃ wd, wd = w3.drew := ⟨_, rfl⟩
  have xd : Ext w3 wd := by rw [hwd]; exact Ext.drew _
  have HA := Lib.hid (HA3.out.ext xd)
  have HBB := Lib.hid (HB3.out.ext xd)
  have HO := Lib.hid (HO3.out.ext xd)
  have HX := Lib.hid (HX3.out.tr xd)
  have HWD := Lib.hid hwd
  clear xd hwd hw3 hz m1 m2 m3 m4 l1 l2 HA3 HB3 HO3 HX3 HA2 HB2 HO2 HX2 HG hgw hx1 hx2 hx3 hc hcb hne ho hfo HA1 HB1 HX1 HZ
  refine wp_region_ord 16 (fun W => Ext wd W) (by kernel_rfl) (by kernel_rfl) (by decide) (by kernel_rfl) (by rw [HWD.out]; exact Ext.refl _) ?_
  simp only [List.take_succ_cons, List.take_zero, List.drop_succ_cons, List.drop_zero]
  refine wpTxt_step (.agg (tabV .u8 16 (k))) (fun W K hS hK => wp_load_arr 22 (.tmp 3) rfl (w.heap.size) rfl .u8 16 (k) _ _ (HA.out.ext hS) Try.underlying22 size_bk (hK _ hS)) rfl ?_
  simp only [Act.put, List.setIfInBounds_toArray, List.set_cons_zero, List.set_cons_succ]
  refine wpTxt_step (.agg (tabV .u8 16 (b))) (fun W K hS hK => wp_load_arr 22 (.tmp 4) rfl (w.heap.size + 1) rfl .u8 16 (b) _ _ (HBB.out.ext hS) Try.underlying22 size_bk (hK _ hS)) rfl ?_
  simp only [Act.put, List.setIfInBounds_toArray, List.set_cons_zero, List.set_cons_succ]
  refine wpTxt_step ?_ (fun W K hS hK => ?_) rfl ?_
  rotate_left
  · simp only [Act.put, List.setIfInBounds_toArray, List.set_cons_zero, List.set_cons_succ] at hK
    go_simp
    refine (encrypt_c k b HK.out HB.out _).mono ?_
    rintro e W' ⟨rfl, hx'⟩
    exact hK _ (hS.tr hx')
  simp only [Act.put, List.setIfInBounds_toArray, List.set_cons_zero, List.set_cons_succ]
  refine wpTxt_step (.agg (tabV .u8 16 (k))) (fun W K hS hK => wp_load_arr 22 (.tmp 3) rfl (w.heap.size) rfl .u8 16 (k) _ _ (HA.out.ext hS) Try.underlying22 size_bk (hK _ hS)) rfl ?_
  simp only [Act.put, List.setIfInBounds_toArray, List.set_cons_zero, List.set_cons_succ]
  refine wpTxt_step (.agg (tabV .u8 16 (c))) (fun W K hS hK => wp_load_arr 22 (.tmp 7) rfl (gw) rfl .u8 16 (c) _ _ (HO.out.ext hS) Try.underlying22 size_bk (hK _ hS)) rfl ?_
  simp only [Act.put, List.setIfInBounds_toArray, List.set_cons_zero, List.set_cons_succ]
  refine wpTxt_step ?_ (fun W K hS hK => ?_) rfl ?_
  rotate_left
  · simp only [Act.put, List.setIfInBounds_toArray, List.set_cons_zero, List.set_cons_succ] at hK
    go_simp
    refine (encrypt_c k c HK.out HCB.out _).mono ?_
    rintro e W' ⟨rfl, hx'⟩
    exact hK _ (hS.tr hx')
  simp only [Act.put, List.setIfInBounds_toArray, List.set_cons_zero, List.set_cons_succ]
  refine wpTxt_step (.bool true) (fun W K hS hK => wp_neq_dec 22 22 (.tmp 29) (.tmp 32) rfl .u8 16 (enc k b) (enc k c) rfl rfl 5 Try.underlying22 Try.underlying5 size_u8 cells_u8 noGuard_bk (by rw [HNE.out]; exact hK _ hS)) rfl ?_
  simp only [Act.put, List.setIfInBounds_toArray, List.set_cons_zero, List.set_cons_succ]
  repeat (refine wpTxt_step ?_ (fun W K hS hK => ?_) rfl ?_; rotate_left; (simp only [Act.put, List.setIfInBounds_toArray, List.set_cons_zero, List.set_cons_succ] at hK; go_simp; exact hK _ hS); simp only [Act.put, List.setIfInBounds_toArray, List.set_cons_zero, List.set_cons_succ])
  refine wpTxt_step (.agg (tabV .u8 16 (b))) (fun W K hS hK => wp_load_arr 22 (.tmp 4) rfl (w.heap.size + 1) rfl .u8 16 (b) _ _ (HBB.out.ext hS) Try.underlying22 size_bk (hK _ hS)) rfl ?_
  simp only [Act.put, List.setIfInBounds_toArray, List.set_cons_zero, List.set_cons_succ]
  refine wpTxt_step (.agg (tabV .u8 16 (c))) (fun W K hS hK => wp_load_arr 22 (.tmp 7) rfl (gw) rfl .u8 16 (c) _ _ (HO.out.ext hS) Try.underlying22 size_bk (hK _ hS)) rfl ?_
  simp only [Act.put, List.setIfInBounds_toArray, List.set_cons_zero, List.set_cons_succ]
  refine wpTxt_step ?_ (fun W K hS hK => ?_) rfl ?_
  rotate_left
  · simp only [Act.put, List.setIfInBounds_toArray, List.set_cons_zero, List.set_cons_succ] at hK
    go_simp
    refine (xor_c b c HB.out HCB.out _).mono ?_
    rintro e W' ⟨rfl, hx'⟩
    exact hK _ (hS.tr hx')
  simp only [Act.put, List.setIfInBounds_toArray, List.set_cons_zero, List.set_cons_succ]
  refine wpTxt_step (.agg (tabV .u8 16 (c))) (fun W K hS hK => wp_load_arr 22 (.tmp 7) rfl (gw) rfl .u8 16 (c) _ _ (HO.out.ext hS) Try.underlying22 size_bk (hK _ hS)) rfl ?_
  simp only [Act.put, List.setIfInBounds_toArray, List.set_cons_zero, List.set_cons_succ]
  refine wpTxt_step ?_ (fun W K hS hK => ?_) rfl ?_
  rotate_left
  · simp only [Act.put, List.setIfInBounds_toArray, List.set_cons_zero, List.set_cons_succ] at hK
    go_simp
    refine (xor_c (xo b c) c (xo_byt HB.out HCB.out) HCB.out _).mono ?_
    rintro e W' ⟨rfl, hx'⟩
    exact hK _ (hS.tr hx')
  simp only [Act.put, List.setIfInBounds_toArray, List.set_cons_zero, List.set_cons_succ]
  refine wpTxt_step (.agg (tabV .u8 16 (b))) (fun W K hS hK => wp_load_arr 22 (.tmp 4) rfl (w.heap.size + 1) rfl .u8 16 (b) _ _ (HBB.out.ext hS) Try.underlying22 size_bk (hK _ hS)) rfl ?_
  simp only [Act.put, List.setIfInBounds_toArray, List.set_cons_zero, List.set_cons_succ]
  refine wpTxt_step (.bool true) (fun W K hS hK => wp_eql_tab 22 22 (.tmp 39) (.tmp 40) rfl .u8 16 (xo (xo b c) c) (b) rfl rfl 5 Try.underlying22 Try.underlying5 size_u8 cells_u8 noGuard_bk (xo_xo b c) (hK _ hS)) rfl ?_
  simp only [Act.put, List.setIfInBounds_toArray, List.set_cons_zero, List.set_cons_succ]
  repeat (refine wpTxt_step ?_ (fun W K hS hK => ?_) rfl ?_; rotate_left; (simp only [Act.put, List.setIfInBounds_toArray, List.set_cons_zero, List.set_cons_succ] at hK; go_simp; exact hK _ hS); simp only [Act.put, List.setIfInBounds_toArray, List.set_cons_zero, List.set_cons_succ])
  refine wpTxt_nil ?_
  intro W hS
  have HX2 := Lib.hid (HX.out.tr hS)
  clear hS
  go_wp2_with fail
  go_ret
  exact ⟨rfl, HX2.out⟩
end Go.Proofs.Ytafjpebgcgliaaa
