/-
  AesRounds: a round is that of the reference; encryption consists of rounds.
-/
import Derived.Test.YtafjpebgcgliaaaRefE
import Derived.Test.YtafjpebgcgliaaaAesU
namespace Go.Proofs.Ytafjpebgcgliaaa
open Go.RowKit
set_option linter.unusedVariables false
set_option linter.unusedSimpArgs false

theorem eqb_refl (n : Nat) (f : Nat → Nat) : eqb n f f = true := eqb_true.2 fun _ _ => rfl
/-- the blocks of the law -/
def Rl (w wr : World) (k b : Bk) (g9 : Nat) : Prop :=
  Arr wr w.heap.size 22 .u8 16 k ∧ Arr wr (w.heap.size + 1) 22 .u8 16 b ∧ Arr wr g9 32 .u8 176 (kf k) ∧ Ext w wr
theorem Rl.ext {w wr wr' : World} {k b : Bk} {g9 : Nat} (h : Rl w wr k b g9) (hx : Ext wr wr') : Rl w wr' k b g9 := ⟨h.1.ext hx, h.2.1.ext hx, h.2.2.1.ext hx, h.2.2.2.tr hx⟩
theorem Rl.grown {w wr wr' : World} {k b : Bk} {g9 gv : Nat} (h : Rl w wr k b g9) (h1 : w.heap.size + 1 < gv) (h2 : g9 ≠ gv) (hG : wr.grownBy wr' (some gv)) : Rl w wr' k b g9 :=
  ⟨grown_get hG h.1 (by simp; omega), grown_get hG h.2.1 (by simp; omega), grown_get hG h.2.2.1 (by simp; omega), grown_new h.2.2.2 hG (fun g hg => by simp at hg; omega)⟩
set_option maxRecDepth 100000 in
set_option maxHeartbeats 8000000 in
theorem aesRounds_walk (k b : Nat → Nat) (last : Bool) (a : Int) (w : World) (hk : ∀ i, i < 16 → (Lit.int .u8 (k i : Nat)).wf = true) (hb : ∀ i, i < 16 → (Lit.int .u8 (b i : Nat)).wf = true) (ha : (Lit.int .u8 a).wf = true) :
    Calls Try.prog 6 #[.agg (tabV .u8 16 k), .agg (tabV .u8 16 b), .bool last, .int .u8 a] w fun e w' => e = .returned (.bool true) ∧ Ext w w' := by
  obtain ⟨a0, a1⟩ := bd_u8 ha
  obtain ⟨n, rfl⟩ := Int.eq_ofNat_of_zero_le a0
  have hn : n < 256 := by omega
  have HK := Lib.hid (byt_of hk)
  have HB := Lib.hid (byt_of hb)
  obtain ⟨h0, h1⟩ := two_new w (.cells (tabV .u8 16 k) 22) (.cells (tabV .u8 16 b) 22)
  have hx0 := (Ext.alloc w (.cells (tabV .u8 16 k) 22)).tr (Ext.alloc _ (.cells (tabV .u8 16 b) 22))
  have H0 := Lib.hid (show Arr _ w.heap.size 22 .u8 16 k from h0)
  have H1 := Lib.hid (show Arr _ (w.heap.size + 1) 22 .u8 16 b from h1)
  have HX0 := Lib.hid hx0
  have zk := zero_ks
  obtain ⟨m, hm⟩ : ∃ m, m = n % 11 := ⟨_, rfl⟩
  have hml : m < 11 := by omega
  have m1 : (n : Int).tmod 11 = (m : Int) := by rw [Int.tmod_eq_emod_of_nonneg (by omega)]; omega
  have m2 : (m : Int) < 11 := by omega
  have m3 : IntKind.i64.wrap (n : Int) = (n : Int) := IntWalk.i64_in _ (by omega)
  have HM16 := Lib.hid (show m * 16 + 16 ≤ 176 by omega)
  have HE16 := Lib.hid (show tabV .u8 16 (fun j => kf k (m * 16 + j)) = tabV .u8 16 (kys k m) from tabV_congr (fun i hi => by
    unfold kf
    rw [show (m * 16 + i) / 16 = m by omega, show (m * 16 + i) % 16 = i by omega]))
  clear hk hb ha a0 a1 h0 h1 hx0 hm hn
  go_enter Try.func6, Try.ntmps6
  go_wp2_with fail
  refine (awake_c _).mono ?_
  rintro e w1 ⟨rfl, hx1⟩
  have HA1 := Lib.hid (H0.out.ext hx1)
  have HB1 := Lib.hid (H1.out.ext hx1)
  have HX1 := Lib.hid (HX0.out.tr hx1)
  clear hx1 H0 H1 HX0
  go_wp2_with (refine wpList_load_arr rfl 22 (.tmp 4) rfl w.heap.size rfl 22 .u8 16 k _ HA1.out Try.underlying22 size_bk ?_)
  refine (keys_c k HK.out _).mono ?_
  rintro e w2 ⟨rfl, hx2⟩
  have HA2 := Lib.hid (HA1.out.ext hx2)
  have HB2 := Lib.hid (HB1.out.ext hx2)
  have HX2 := Lib.hid (HX1.out.tr hx2)
  have HZ := Lib.hid (Arr.new w2 32 .u8 176 (fun _ => 0))
  clear hx2 HA1 HB1 HX1
  go_wp2_with (refine wpList_store_arr' rfl rfl 32 (.tmp 9) (.tmp 15) rfl w2.heap.size .u8 176 (kf k) rfl rfl 32 _ HZ.out size_ks tabV_size ?_
               intro w3 hA3 hG3
               have hl1 := HA2.out.lt
               have hl2 := HB2.out.lt
               have HR3 : Hid (Rl w w3 k b w2.heap.size) := Lib.hid ⟨grown_get hG3 (HA2.out.ext (Ext.alloc _ _)) (by simp; omega), grown_get hG3 (HB2.out.ext (Ext.alloc _ _)) (by simp; omega), hA3, HX2.out.tr (grown_new (Ext.alloc _ _) hG3 (fun g hg => by simp at hg; omega))⟩
               have HGL := Lib.hid hl2
               clear hA3 hG3 hl1 hl2)
  obtain ⟨g9, hg9⟩ : ∃ g9, g9 = w2.heap.size := ⟨_, rfl⟩
  rw [← hg9] at HR3 HGL ⊢
  clear hg9 HA2 HB2 HX2 HZ
  obtain ⟨wd, hwd⟩ : ∃ wd, wd = w3.drew := ⟨_, rfl⟩
  have HR := Lib.hid (HR3.out.ext (show Ext w3 wd by rw [hwd]; exact Ext.drew _))
  have HWD := Lib.hid hwd
  have HQ := Lib.hid (eqb_refl 16 (rnd b (kys k m) last))
  clear hwd HR3
  refine wp_region_ord 20 (fun W => Ext wd W) (by kernel_rfl) (by kernel_rfl) (by decide) (by kernel_rfl) (by rw [HWD.out]; exact Ext.refl _) ?_
  simp only [List.take_succ_cons, List.take_zero, List.drop_succ_cons, List.drop_zero]
  refine wpTxt_step (.agg (tabV .u8 16 b)) (fun W K hS hK => wp_load_arr 22 (.tmp 5) rfl (w.heap.size + 1) rfl .u8 16 b _ _ (HR.out.2.1.ext hS) Try.underlying22 size_bk (hK _ hS)) rfl ?_
  simp only [Act.put, List.setIfInBounds_toArray, List.set_cons_zero, List.set_cons_succ]
  repeat (refine wpTxt_step ?_ (fun W K hS hK => ?_) rfl ?_; rotate_left; (simp only [Act.put, List.setIfInBounds_toArray, List.set_cons_zero, List.set_cons_succ] at hK; go_simp; exact hK _ hS); simp only [Act.put, List.setIfInBounds_toArray, List.set_cons_zero, List.set_cons_succ])
  refine wpTxt_step (.agg (tabV .u8 16 (kys k m))) (fun W K hS hK => wp_load_part 22 (.tmp 20) rfl g9 (m * 16) rfl .u8 16 (kys k m) 5 (key_part (HR.out.2.2.1.ext hS) hml) Try.underlying22 size_bk (hK _ hS)) rfl ?_
  simp only [Act.put, List.setIfInBounds_toArray, List.set_cons_zero, List.set_cons_succ]
  repeat (refine wpTxt_step ?_ (fun W K hS hK => ?_) rfl ?_; rotate_left; (simp only [Act.put, List.setIfInBounds_toArray, List.set_cons_zero, List.set_cons_succ] at hK; go_simp; exact hK _ hS); simp only [Act.put, List.setIfInBounds_toArray, List.set_cons_zero, List.set_cons_succ])
  refine wpTxt_step ?_ (fun W K hS hK => ?_) rfl ?_
  rotate_left
  · simp only [Act.put, List.setIfInBounds_toArray, List.set_cons_zero, List.set_cons_succ] at hK
    go_simp
    refine (round_c b (kys k m) HB.out (kys_byt HK.out _) last _).mono ?_
    rintro e W' ⟨rfl, hx'⟩
    exact hK _ (hS.tr hx')
  simp only [Act.put, List.setIfInBounds_toArray, List.set_cons_zero, List.set_cons_succ]
  refine wpTxt_step (.agg (tabV .u8 16 b)) (fun W K hS hK => wp_load_arr 22 (.tmp 5) rfl (w.heap.size + 1) rfl .u8 16 b _ _ (HR.out.2.1.ext hS) Try.underlying22 size_bk (hK _ hS)) rfl ?_
  simp only [Act.put, List.setIfInBounds_toArray, List.set_cons_zero, List.set_cons_succ]
  refine wpTxt_step (.agg (tabV .u8 16 k)) (fun W K hS hK => wp_load_arr 22 (.tmp 4) rfl w.heap.size rfl .u8 16 k _ _ (HR.out.1.ext hS) Try.underlying22 size_bk (hK _ hS)) rfl ?_
  simp only [Act.put, List.setIfInBounds_toArray, List.set_cons_zero, List.set_cons_succ]
  refine wpTxt_step ?_ (fun W K hS hK => ?_) rfl ?_
  rotate_left
  · simp only [Act.put, List.setIfInBounds_toArray, List.set_cons_zero, List.set_cons_succ] at hK
    go_simp
    refine (box_c _).mono ?_
    rintro e W' ⟨rfl, hx'⟩
    exact hK _ (hS.tr hx')
  simp only [Act.put, List.setIfInBounds_toArray, List.set_cons_zero, List.set_cons_succ]
  refine wpTxt_step ?_ (fun W K hS hK => ?_) rfl ?_
  rotate_left
  · simp only [Act.put, List.setIfInBounds_toArray, List.set_cons_zero, List.set_cons_succ] at hK
    go_simp
    refine (rkeys_c k HK.out _).mono ?_
    rintro e W' ⟨rfl, hx'⟩
    exact hK _ (hS.tr hx')
  simp only [Act.put, List.setIfInBounds_toArray, List.set_cons_zero, List.set_cons_succ]
  repeat (refine wpTxt_step ?_ (fun W K hS hK => ?_) rfl ?_; rotate_left; (simp only [Act.put, List.setIfInBounds_toArray, List.set_cons_zero, List.set_cons_succ] at hK; go_simp; exact hK _ hS); simp only [Act.put, List.setIfInBounds_toArray, List.set_cons_zero, List.set_cons_succ])
  refine wpTxt_step (.agg (tabV .u8 16 (kys k m))) (fun W K hS hK => wp_index_part 32 (.tmp 27) (.tmp 30) rfl (kf k) m rfl rfl Try.underlying32 Try.underlying22 size_bk hml HM16.out (by rw [HE16.out]; exact hK _ hS)) rfl ?_
  simp only [Act.put, List.setIfInBounds_toArray, List.set_cons_zero, List.set_cons_succ]
  repeat (refine wpTxt_step ?_ (fun W K hS hK => ?_) rfl ?_; rotate_left; (simp only [Act.put, List.setIfInBounds_toArray, List.set_cons_zero, List.set_cons_succ] at hK; go_simp; exact hK _ hS); simp only [Act.put, List.setIfInBounds_toArray, List.set_cons_zero, List.set_cons_succ])
  refine wpTxt_step ?_ (fun W K hS hK => ?_) rfl ?_
  rotate_left
  · simp only [Act.put, List.setIfInBounds_toArray, List.set_cons_zero, List.set_cons_succ] at hK
    go_simp
    refine (box_c _).mono ?_
    rintro e W' ⟨rfl, hx'⟩
    exact hK _ (hS.tr hx')
  simp only [Act.put, List.setIfInBounds_toArray, List.set_cons_zero, List.set_cons_succ]
  refine wpTxt_step ?_ (fun W K hS hK => ?_) rfl ?_
  rotate_left
  · simp only [Act.put, List.setIfInBounds_toArray, List.set_cons_zero, List.set_cons_succ] at hK
    go_simp
    refine (rround_c b (kys k m) HB.out (kys_byt HK.out _) last _).mono ?_
    rintro e W' ⟨rfl, hx'⟩
    exact hK _ (hS.tr hx')
  simp only [Act.put, List.setIfInBounds_toArray, List.set_cons_zero, List.set_cons_succ]
  refine wpTxt_step (.bool false) (fun W K hS hK => wp_neq_dec 22 22 (.tmp 23) (.tmp 34) rfl .u8 16 (rnd b (kys k m) last) (rnd b (kys k m) last) rfl rfl 5 Try.underlying22 Try.underlying5 size_u8 cells_u8 noGuard_bk (by rw [HQ.out]; exact hK _ hS)) rfl ?_
  simp only [Act.put, List.setIfInBounds_toArray, List.set_cons_zero, List.set_cons_succ]
  refine wpTxt_nil ?_
  intro W hS
  have HR4 := Lib.hid (HR.out.ext hS)
  clear hS HR HQ
  refine wpList_nil ?_
  go_wp2_with (first
    | refine wpList_load_arr rfl 22 (.tmp 5) rfl (w.heap.size + 1) rfl 22 .u8 16 b _ HR4.out.2.1 Try.underlying22 size_bk ?_
    | refine wpList_load_pt rfl 22 (.tmp 37) rfl g9 0 rfl .u8 16 k _ (key_part0 HR4.out.2.2.1) Try.underlying22 size_bk ?_)
  refine (xor_c b k HB.out HK.out _).mono ?_
  rintro e w5 ⟨rfl, hx5⟩
  have HR5 := Lib.hid (HR4.out.ext hx5)
  have HZ5 := Lib.hid (Arr.new w5 22 .u8 16 (fun _ => 0))
  clear hx5 HR4 m1 m2 m3 HE16 HM16
  go_wp2_with (refine wpList_store_arr' rfl rfl 22 (.tmp 10) (.tmp 39) rfl w5.heap.size .u8 16 (xo b k) rfl rfl 22 _ HZ5.out size_bk tabV_size ?_
               intro w6 hA6 hG6
               have hl1 := HR5.out.2.1.lt
               have hl2 := HR5.out.2.2.1.lt
               have HR6 : Hid (Rl w w6 k b g9) := Lib.hid ((HR5.out.ext (Ext.alloc _ _)).grown hl1 (by omega) hG6)
               have HA6 : Hid (Arr w6 w5.heap.size 22 .u8 16 (est k b 0)) := Lib.hid hA6
               have HGW := Lib.hid hl1
               have HGN : Hid (g9 ≠ w5.heap.size) := Lib.hid (by omega)
               clear hA6 hG6 hl1 hl2)
  obtain ⟨gx, hgx⟩ : ∃ gx, gx = w5.heap.size := ⟨_, rfl⟩
  rw [← hgx] at HA6 HGW HGN ⊢
  clear hgx HR5 HZ5
  go_loopw [11] (fun v wr => ∃ n : Nat, 1 ≤ n ∧ n ≤ 11 ∧ v = .int .i64 n ∧ Rl w wr k b g9 ∧ Arr wr gx 22 .u8 16 (est k b (n - 1))) (fun v _ => 11 - (intOf v).toNat)
  case atStart => exact ⟨1, by omega, by omega, rfl, HR6.out, HA6.out⟩
  case round =>
    obtain ⟨n, h1, hn, rfl, hR, hA⟩ := hrel
    by_cases hlt : n < 11
    · obtain ⟨wd, hwd⟩ : ∃ wd, wd = wr.drew := ⟨_, rfl⟩
      have xd : Ext wr wd := by rw [hwd]; exact Ext.drew _
      have i2 : (n : Int) ≤ 10 := by omega
      have i3 : (n : Int) < 11 := by omega
      have HR1 := Lib.hid (hR.ext xd)
      have HA1 := Lib.hid (hA.ext xd)
      have HWD2 := Lib.hid hwd
      clear hR hA hwd xd
      go_wp2_with fail
      refine wp_region_ord 7 (fun W => Ext wd W) (by kernel_rfl) (by kernel_rfl) (by decide) (by kernel_rfl) (by rw [HWD2.out]; exact Ext.refl _) ?_
      simp only [List.take_succ_cons, List.take_zero, List.drop_succ_cons, List.drop_zero]
      refine wpTxt_step (.agg (tabV .u8 16 (est k b (n - 1)))) (fun W K hS hK => wp_load_arr 22 (.tmp 10) rfl (gx) rfl .u8 16 (est k b (n - 1)) _ _ (HA1.out.ext hS) Try.underlying22 size_bk (hK _ hS)) rfl ?_
      simp only [Act.put, List.setIfInBounds_toArray, List.set_cons_zero, List.set_cons_succ]
      repeat (refine wpTxt_step ?_ (fun W K hS hK => ?_) rfl ?_; rotate_left; (simp only [Act.put, List.setIfInBounds_toArray, List.set_cons_zero, List.set_cons_succ] at hK; go_simp; exact hK _ hS); simp only [Act.put, List.setIfInBounds_toArray, List.set_cons_zero, List.set_cons_succ])
      refine wpTxt_step (.agg (tabV .u8 16 (kys k n))) (fun W K hS hK => wp_load_part 22 (.tmp 46) rfl g9 (n * 16) rfl .u8 16 (kys k n) 5 (key_part (HR1.out.2.2.1.ext hS) hlt) Try.underlying22 size_bk (hK _ hS)) rfl ?_
      simp only [Act.put, List.setIfInBounds_toArray, List.set_cons_zero, List.set_cons_succ]
      repeat (refine wpTxt_step ?_ (fun W K hS hK => ?_) rfl ?_; rotate_left; (simp only [Act.put, List.setIfInBounds_toArray, List.set_cons_zero, List.set_cons_succ] at hK; go_simp; exact hK _ hS); simp only [Act.put, List.setIfInBounds_toArray, List.set_cons_zero, List.set_cons_succ])
      refine wpTxt_step ?_ (fun W K hS hK => ?_) rfl ?_
      rotate_left
      · simp only [Act.put, List.setIfInBounds_toArray, List.set_cons_zero, List.set_cons_succ] at hK
        go_simp
        refine (round_c (est k b (n - 1)) (kys k n) (est_byt HK.out HB.out _) (kys_byt HK.out _) ((n : Int) == 10) _).mono ?_
        rintro e W' ⟨rfl, hx'⟩
        exact hK _ (hS.tr hx')
      simp only [Act.put, List.setIfInBounds_toArray, List.set_cons_zero, List.set_cons_succ]
      refine wpTxt_nil ?_
      intro W hS
      have HR3 := Lib.hid (HR1.out.ext hS)
      have HA3 := Lib.hid (HA1.out.ext hS)
      clear hS HR1 HA1
      go_wp2_with (refine wpList_store_arr' rfl rfl 22 (.tmp 10) (.tmp 50) rfl gx .u8 16 (rnd (est k b (n - 1)) (kys k n) ((n : Int) == 10)) rfl rfl 22 _ HA3.out size_bk tabV_size ?_
                   intro w7 hA7 hG7)
      have e : rnd (est k b (n - 1)) (kys k n) ((n : Int) == 10) = est k b (n + 1 - 1) := by
        obtain ⟨m, rfl⟩ : ∃ m, n = m + 1 := ⟨n - 1, by omega⟩
        rw [Nat.add_sub_cancel, Nat.add_sub_cancel, est]
        congr 1
        exact int_eq10 _
      rw [e] at hA7
      refine ⟨⟨n + 1, by omega, by omega, by go_num, HR3.out.grown HGW.out HGN.out hG7, hA7⟩, ?_⟩
      simp only [intOf]
      omega
    · have e11 : n = 11 := by omega
      have i2 : ¬ (n : Int) ≤ 10 := by omega
      obtain ⟨wd, hwd⟩ : ∃ wd, wd = wr.drew := ⟨_, rfl⟩
      have xd : Ext wr wd := by rw [hwd]; exact Ext.drew _
      rw [e11] at hA
      have HR1 := Lib.hid (hR.ext xd)
      have HA1 : Hid (Arr wd gx 22 .u8 16 (enc k b)) := Lib.hid (hA.ext xd)
      have HP0 : Hid (Arr wd w.heap.size 22 .u8 16 k) := Lib.hid HR1.out.1
      have HP1 : Hid (Arr wd (w.heap.size + 1) 22 .u8 16 b) := Lib.hid HR1.out.2.1
      have HX := Lib.hid HR1.out.2.2.2
      have HWD2 := Lib.hid hwd
      clear hR hA hwd xd e11
      go_wp2_with fail
      refine wp_region_ord 5 (fun W => Ext wd W) (by kernel_rfl) (by kernel_rfl) (by decide) (by kernel_rfl) (by rw [HWD2.out]; exact Ext.refl _) ?_
      simp only [List.take_succ_cons, List.take_zero, List.drop_succ_cons, List.drop_zero]
      refine wpTxt_step (.agg (tabV .u8 16 (enc k b))) (fun W K hS hK => wp_load_arr 22 (.tmp 10) rfl (gx) rfl .u8 16 (enc k b) _ _ (HA1.out.ext hS) Try.underlying22 size_bk (hK _ hS)) rfl ?_
      simp only [Act.put, List.setIfInBounds_toArray, List.set_cons_zero, List.set_cons_succ]
      refine wpTxt_step (.agg (tabV .u8 16 (k))) (fun W K hS hK => wp_load_arr 22 (.tmp 4) rfl (w.heap.size) rfl .u8 16 (k) _ _ (HP0.out.ext hS) Try.underlying22 size_bk (hK _ hS)) rfl ?_
      simp only [Act.put, List.setIfInBounds_toArray, List.set_cons_zero, List.set_cons_succ]
      refine wpTxt_step (.agg (tabV .u8 16 (b))) (fun W K hS hK => wp_load_arr 22 (.tmp 5) rfl (w.heap.size + 1) rfl .u8 16 (b) _ _ (HP1.out.ext hS) Try.underlying22 size_bk (hK _ hS)) rfl ?_
      simp only [Act.put, List.setIfInBounds_toArray, List.set_cons_zero, List.set_cons_succ]
      refine wpTxt_step ?_ (fun W K hS hK => ?_) rfl ?_
      rotate_left
      · simp only [Act.put, List.setIfInBounds_toArray, List.set_cons_zero, List.set_cons_succ] at hK
        go_simp
        refine (encrypt_c k b HK.out HB.out _).mono ?_
        rintro e W' ⟨rfl, hx'⟩
        exact hK _ (hS.tr hx')
      simp only [Act.put, List.setIfInBounds_toArray, List.set_cons_zero, List.set_cons_succ]
      refine wpTxt_step (.bool true) (fun W K hS hK => wp_eql_tab 22 22 (.tmp 51) (.tmp 54) rfl .u8 16 (enc k b) (enc k b) rfl rfl 5 Try.underlying22 Try.underlying5 size_u8 cells_u8 noGuard_bk (fun _ _ => rfl) (hK _ hS)) rfl ?_
      simp only [Act.put, List.setIfInBounds_toArray, List.set_cons_zero, List.set_cons_succ]
      refine wpTxt_nil ?_
      intro W hS
      have HX2 := Lib.hid (HX.out.tr hS)
      clear hS
      go_wp2_with fail
      go_ret
      exact ⟨rfl, HX2.out⟩
end Go.Proofs.Ytafjpebgcgliaaa
