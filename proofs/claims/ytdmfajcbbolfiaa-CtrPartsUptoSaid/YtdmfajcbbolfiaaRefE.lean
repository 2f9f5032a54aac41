/-
  The reference's encryption.
-/
import Derived.Test.YtdmfajcbbolfiaaRefR
namespace Go.Proofs.Ytdmfajcbbolfiaa
open Go.RowKit
set_option linter.unusedVariables false
set_option linter.unusedSimpArgs false

/-- the blocks of the reference's Encrypt -/
def Re (w wr : World) (k : Bk) (gk : Nat) (F : Nat → Nat) : Prop :=
  Arr wr (w.heap.size + 1) 22 .u8 16 F ∧ Arr wr gk 54 .u8 176 (kf k) ∧ Arr wr (w.heap.size + 1 + 1) 42 .u8 256 sb ∧ Arr wr (w.heap.size + 1 + 1 + 1) 22 .u8 16 (fun _ => 0) ∧ Ext w wr
theorem Re.ext {w wr wr' : World} {k : Bk} {gk : Nat} {F : Nat → Nat} (h : Re w wr k gk F) (hx : Ext wr wr') : Re w wr' k gk F := ⟨h.1.ext hx, h.2.1.ext hx, h.2.2.1.ext hx, h.2.2.2.1.ext hx, h.2.2.2.2.tr hx⟩
theorem Re.congr {w wr : World} {k : Bk} {gk : Nat} {F F' : Nat → Nat} (h : Re w wr k gk F) (hF : ∀ i, i < 16 → F i = F' i) : Re w wr k gk F' := ⟨h.1.congr hF, h.2⟩
theorem Re.to {w wr : World} {k : Bk} {gk : Nat} {F F' : Nat → Nat} (h : Re w wr k gk F) (hg : w.heap.size + 1 + 1 + 1 < gk) {i : Nat} (hi : i < 16) {v : Int} (hv : v = (F' i : Nat)) (hf : ∀ j, j < 16 → j ≠ i → F j = F' j) : Re w (wr.setCell ⟨w.heap.size + 1, i, none⟩ (.int .u8 v)) k gk F' :=
  ⟨h.1.to hi hv hf, h.2.1.other (by omega) _ _, h.2.2.1.other (by omega) _ _, h.2.2.2.1.other (by omega) _ _, ext_setCell h.2.2.2.2 (by simp) _⟩
theorem Re.stored {w wr wr' : World} {k : Bk} {gk : Nat} {F F' : Nat → Nat} (h : Re w wr k gk F) (hg : w.heap.size + 1 + 1 + 1 < gk) (hA : Arr wr' (w.heap.size + 1) 22 .u8 16 F') (hG : wr.grownBy wr' (some (w.heap.size + 1))) : Re w wr' k gk F' :=
  ⟨hA, grown_get hG h.2.1 (by simp; omega), grown_get hG h.2.2.1 (by simp), grown_get hG h.2.2.2.1 (by simp), grown_new h.2.2.2.2 hG (fun g hg => by simp at hg; omega)⟩
theorem wp_load_box {o : Oper} {a : Act} {w : World} {K : Act → World → Prop} {Q : Exit → Act → World → Prop} (x : Operand) (ho : o.op = .load 42 x)
    (g : Nat) (hx : a.eval x = .pointer (some ⟨g, 0, none⟩)) (f : Nat → Nat) (t : TypeId) (hg : Arr w g t .u8 256 f) (h : K (a.put o.dst (.agg (tabV .u8 256 f))) w) : o.wp Try.prog a w K Q :=
  wp_load_arr 42 x ho g hx .u8 256 f 5 t hg Try.underlying42 size_box h
set_option maxRecDepth 100000 in
set_option maxHeartbeats 8000000 in
theorem rencrypt_c (k b : Bk) (hk : Byt k) (hb : Byt b) (w : World) :
    Calls Try.prog 23 #[.agg (tabV .u8 16 k), .agg (tabV .u8 16 b), .agg (tabV .u8 256 sb)] w fun e w' => e = .returned (.agg (tabV .u8 16 (enc k b))) ∧ Ext w w' := by
  have HK := Lib.hid hk
  have HB := Lib.hid hb
  obtain ⟨h0, h1, h2, h3⟩ := new4 w (.cells (tabV .u8 16 k) 22) (.cells (tabV .u8 16 b) 22) (.cells (tabV .u8 256 sb) 42) (.cells (tabV .u8 16 (fun _ => 0)) 22)
  have hx0 := (((Ext.alloc w (.cells (tabV .u8 16 k) 22)).tr (Ext.alloc _ (.cells (tabV .u8 16 b) 22))).tr (Ext.alloc _ (.cells (tabV .u8 256 sb) 42))).tr (Ext.alloc _ (.cells (tabV .u8 16 (fun _ => 0)) 22))
  have H0 := Lib.hid (show Arr _ w.heap.size 22 .u8 16 k from h0)
  have H1 := Lib.hid (show Arr _ (w.heap.size + 1) 22 .u8 16 b from h1)
  have H2 := Lib.hid (show Arr _ (w.heap.size + 1 + 1) 42 .u8 256 sb from h2)
  have H3 := Lib.hid (show Arr _ (w.heap.size + 1 + 1 + 1) 22 .u8 16 (fun _ => 0) from h3)
  have HX0 := Lib.hid hx0
  have zk := zero_ks
  clear hk hb h0 h1 h2 h3 hx0
  go_enter Try.func23, Try.ntmps23
  go_wp2_with (first
    | refine wpList_load_arr rfl 22 (.tmp 3) rfl w.heap.size rfl 22 .u8 16 k _ H0.out Try.underlying22 size_bk ?_
    | refine wpList_load_arr rfl 42 (.tmp 5) rfl (w.heap.size + 1 + 1) rfl 42 .u8 256 sb _ H2.out Try.underlying42 size_box ?_)
  refine (rkeys_c k HK.out _).mono ?_
  rintro e w1 ⟨rfl, hx1⟩
  have HB1 := Lib.hid (H1.out.ext hx1)
  have HC1 := Lib.hid (H2.out.ext hx1)
  have HD1 := Lib.hid (H3.out.ext hx1)
  have HX1 := Lib.hid (HX0.out.tr hx1)
  have HZ := Lib.hid (Arr.new w1 54 .u8 176 (fun _ => 0))
  clear hx1 H0 H1 H2 H3 HX0
  go_wp2_with (refine wpList_store_arr' rfl rfl 54 (.tmp 7) (.tmp 12) rfl w1.heap.size .u8 176 (kf k) rfl rfl 54 _ HZ.out size_ks tabV_size ?_
               intro w2 hA2 hG2
               have hgl := HD1.out.lt
               have HR2 : Hid (Re w w2 k w1.heap.size b) := Lib.hid ⟨grown_get hG2 (HB1.out.ext (Ext.alloc _ _)) (by simp; omega), hA2, grown_get hG2 (HC1.out.ext (Ext.alloc _ _)) (by simp; omega), grown_get hG2 (HD1.out.ext (Ext.alloc _ _)) (by simp; omega), HX1.out.tr (grown_new (Ext.alloc _ _) hG2 (fun g hg => by simp at hg; omega))⟩
               have HGL := Lib.hid hgl
               clear hA2 hG2 hgl)
  obtain ⟨gk, hgk⟩ : ∃ gk, gk = w1.heap.size := ⟨_, rfl⟩
  rw [← hgk] at HR2 HGL ⊢
  clear hgk HB1 HC1 HD1 HX1 HZ
  go_loopw [8] (fun v wr => ∃ i : Nat, i ≤ 16 ∧ v = .int .i64 i ∧ Re w wr k gk (fun j => if j < i then xo b k j else b j)) (fun v _ => 16 - (intOf v).toNat)
  case atStart => exact ⟨0, by omega, rfl, HR2.out.congr (fun j _ => by rw [if_neg (by omega)])⟩
  case round =>
    obtain ⟨i, hi, rfl, hR⟩ := hrel
    by_cases hlt : i < 16
    · obtain ⟨wd, hwd⟩ : ∃ wd, wd = wr.drew := ⟨_, rfl⟩
      have hR1 := hR.ext (show Ext wr wd by rw [hwd]; exact Ext.drew _)
      have c0 := hR1.1.cell (i := i) hlt
      rw [if_neg (by omega)] at c0
      have c1 := hR1.2.1.cell (i := i) (by omega)
      rw [kf_low k hlt] at c1
      have f0 := hR1.1.free i
      have q0 := u8_xor_nat _ _ (HB.out i hlt) (HK.out i hlt)
      obtain ⟨z, hz⟩ : ∃ z, z = b i ^^^ k i := ⟨_, rfl⟩
      rw [← hz] at q0
      have HZZ := Lib.hid hz
      have i1 : (i : Int) < 16 := by omega
      have HR := Lib.hid hR1
      have HWD := Lib.hid hwd
      clear hR hR1 hwd hz
      go_wp2_with fail
      refine wp_region_ord 9 (fun W => W = wd) (by kernel_rfl) (by kernel_rfl) (by decide) (by kernel_rfl) HWD.out.symm ?_
      simp only [List.take_succ_cons, List.take_zero, List.drop_succ_cons, List.drop_zero]
      repeat (refine wpTxt_stay ?_ (fun K hK => ?_) rfl ?_; rotate_left; (simp only [Act.put, List.setIfInBounds_toArray, List.set_cons_zero, List.set_cons_succ] at hK; go_simp; exact hK); simp only [Act.put, List.setIfInBounds_toArray, List.set_cons_zero, List.set_cons_succ])
      refine wpTxt_nil ?_
      rintro W rfl
      go_wp2_with fail
      refine ⟨⟨i + 1, by omega, by go_num, HR.out.to HGL.out hlt (by rw [if_pos (by omega), HZZ.out]; rfl) (fun j _ hne => ?_)⟩, ?_⟩
      · by_cases hj : j < i
        · rw [if_pos hj, if_pos (by omega)]
        · rw [if_neg hj, if_neg (by omega)]
      · simp only [intOf]
        omega
    · have e16 : i = 16 := by omega
      have i1 : ¬ (i : Int) < 16 := by omega
      have HR : Hid (Re w wr k gk (est k b 0)) := Lib.hid (hR.congr (fun j hj => by rw [if_pos (by omega)]; rfl))
      clear hR e16
      go_wp2_with fail
      go_loopw [9] (fun v wi => ∃ n : Nat, 1 ≤ n ∧ n ≤ 11 ∧ v = .int .i64 n ∧ Re w wi k gk (est k b (n - 1))) (fun v _ => 11 - (intOf v).toNat)
      case atStart => exact ⟨1, by omega, by omega, rfl, HR.out⟩
      case round =>
        obtain ⟨n, h1, hn, rfl, hR⟩ := hrel
        by_cases hlt2 : n < 11
        · obtain ⟨wd, hwd⟩ : ∃ wd, wd = wr.drew := ⟨_, rfl⟩
          have i2 : (n : Int) ≤ 10 := by omega
          have i3 : (n : Int) < 11 := by omega
          have HR1 := Lib.hid (hR.ext (show Ext wr wd by rw [hwd]; exact Ext.drew _))
          have HWD := Lib.hid hwd
          clear hR hwd
          go_wp2_with fail
          refine wp_region_ord 8 (fun W => Ext wd W) (by kernel_rfl) (by kernel_rfl) (by decide) (by kernel_rfl) (by rw [HWD.out]; exact Ext.refl _) ?_
          simp only [List.take_succ_cons, List.take_zero, List.drop_succ_cons, List.drop_zero]
          refine wpTxt_step (.agg (tabV .u8 16 (est k b (n - 1)))) (fun W K hS hK => wp_load_arr 22 (.tmp 4) rfl (w.heap.size + 1) rfl .u8 16 (est k b (n - 1)) _ _ (HR1.out.1.ext hS) Try.underlying22 size_bk (hK _ hS)) rfl ?_
          simp only [Act.put, List.setIfInBounds_toArray, List.set_cons_zero, List.set_cons_succ]
          repeat (refine wpTxt_step ?_ (fun W K hS hK => ?_) rfl ?_; rotate_left; (simp only [Act.put, List.setIfInBounds_toArray, List.set_cons_zero, List.set_cons_succ] at hK; go_simp; exact hK _ hS); simp only [Act.put, List.setIfInBounds_toArray, List.set_cons_zero, List.set_cons_succ])
          refine wpTxt_step (.agg (tabV .u8 16 (kys k n))) (fun W K hS hK => wp_load_part 22 (.tmp 33) rfl gk (n * 16) rfl .u8 16 (kys k n) 5 (key_part (HR1.out.2.1.ext hS) hlt2) Try.underlying22 size_bk (hK _ hS)) rfl ?_
          simp only [Act.put, List.setIfInBounds_toArray, List.set_cons_zero, List.set_cons_succ]
          repeat (refine wpTxt_step ?_ (fun W K hS hK => ?_) rfl ?_; rotate_left; (simp only [Act.put, List.setIfInBounds_toArray, List.set_cons_zero, List.set_cons_succ] at hK; go_simp; exact hK _ hS); simp only [Act.put, List.setIfInBounds_toArray, List.set_cons_zero, List.set_cons_succ])
          refine wpTxt_step (.agg (tabV .u8 256 sb)) (fun W K hS hK => wp_load_box (.tmp 5) rfl (w.heap.size + 1 + 1) rfl sb _ (HR1.out.2.2.1.ext hS) (hK _ hS)) rfl ?_
          simp only [Act.put, List.setIfInBounds_toArray, List.set_cons_zero, List.set_cons_succ]
          refine wpTxt_step ?_ (fun W K hS hK => ?_) rfl ?_
          rotate_left
          · simp only [Act.put, List.setIfInBounds_toArray, List.set_cons_zero, List.set_cons_succ] at hK
            go_simp
            refine (rround_c (est k b (n - 1)) (kys k n) (est_byt HK.out HB.out _) (kys_byt HK.out _) ((n : Int) == 10) _).mono ?_
            rintro e W' ⟨rfl, hx'⟩
            exact hK _ (hS.tr hx')
          simp only [Act.put, List.setIfInBounds_toArray, List.set_cons_zero, List.set_cons_succ]
          refine wpTxt_nil ?_
          intro W hS
          have HR3 := Lib.hid (HR1.out.ext hS)
          clear hS HR1
          go_wp2_with (refine wpList_store_arr' rfl rfl 22 (.tmp 4) (.tmp 38) rfl (w.heap.size + 1) .u8 16 (rnd (est k b (n - 1)) (kys k n) ((n : Int) == 10)) rfl rfl 22 _ HR3.out.1 size_bk tabV_size ?_
                       intro w5 hA5 hG5)
          have e : rnd (est k b (n - 1)) (kys k n) ((n : Int) == 10) = est k b (n + 1 - 1) := by
            obtain ⟨m, rfl⟩ : ∃ m, n = m + 1 := ⟨n - 1, by omega⟩
            rw [Nat.add_sub_cancel, Nat.add_sub_cancel, est]
            congr 1
            exact int_eq10 _
          rw [e] at hA5
          refine ⟨⟨n + 1, by omega, by omega, by go_num, HR3.out.stored HGL.out hA5 hG5⟩, ?_⟩
          simp only [intOf]
          omega
        · have e11 : n = 11 := by omega
          have i2 : ¬ (n : Int) ≤ 10 := by omega
          have HR : Hid (Re w wr k gk (enc k b)) := Lib.hid (by rw [e11] at hR; exact hR)
          clear hR e11
          go_wp2_with (first
            | refine wpList_load_arr rfl 22 (.tmp 4) rfl (w.heap.size + 1) rfl 22 .u8 16 (enc k b) _ HR.out.1 Try.underlying22 size_bk ?_
            | (refine wpList_store_arr' rfl rfl 22 (.tmp 6) (.tmp 39) rfl (w.heap.size + 1 + 1 + 1) .u8 16 (enc k b) rfl rfl 22 _ HR.out.2.2.2.1 size_bk tabV_size ?_; intro w5 hA5 hG5))
          refine bodyPost_ret (v := .agg (tabV .u8 16 (enc k b))) ?_ rfl ⟨rfl, grown_new HR.out.2.2.2.2 hG5 (fun g hg => by simp at hg; omega)⟩
          exact results_cell_row rfl _ _ _ _ _ _ _ rfl hA5 Try.underlying22 rfl (by rw [tabV_size]; exact size_bk)
end Go.Proofs.Ytdmfajcbbolfiaa
