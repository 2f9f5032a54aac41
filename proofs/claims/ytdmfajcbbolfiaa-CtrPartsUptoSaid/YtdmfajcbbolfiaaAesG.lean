/-
  Package aes: a round is undone; encryption, decryption.
-/
import Derived.Test.YtdmfajcbbolfiaaAesF
namespace Go.Proofs.Ytdmfajcbbolfiaa
open Go.RowKit


theorem int_eq10 (n : Nat) : ((n : Int) == 10) = (n == 10) := by
  by_cases h : n = 10
  · subst h; rfl
  · rw [beq_eq_false_iff_ne.2 h, beq_eq_false_iff_ne.2 (by omega)]
/-- the round key n lies in its part -/
theorem key_part {W : World} {g : Nat} {f : Bk} (h : Arr W g 54 .u8 176 (kf f)) {n : Nat} (hn : n < 11) : W.rangeAt g (n * 16) (tabV .u8 16 (kys f n)).toList := by
  have h := h.part (off := n * 16) (n := 16) (by omega)
  rw [tabV_congr (f' := kys f n) (fun i hi => by
    unfold kf
    rw [show (n * 16 + i) / 16 = n by omega, show (n * 16 + i) % 16 = i by omega])] at h
  exact h
theorem key_part0 {W : World} {g : Nat} {f : Bk} (h : Arr W g 54 .u8 176 (kf f)) : W.rangeAt g 0 (tabV .u8 16 f).toList := key_part h (n := 0) (by decide)
theorem wpList_load_pt {P : Program} {ops : Array Oper} {rest : List Oper} {o : Oper} {a : Act} {w : World} {Q : Exit → Act → World → Prop} (hgd : o.guard = none) (ty : TypeId) (x : Operand) (ho : o.op = .load ty x)
    (g off : Nat) (hx : a.eval x = .pointer (some ⟨g, off, none⟩)) (k : IntKind) (n : Nat) (f : Nat → Nat) (e : TypeId) (hg : w.rangeAt g off (tabV k n f).toList) (hu : P.underlying ty = some (.array n e)) (hz : (P.info? ty).map (·.size) = some n)
    (h : wpList P ops Q rest (a.put o.dst (.agg (tabV k n f))) w) : wpList P ops Q (o :: rest) a w :=
  wpList_plain hgd fun _ hK => wp_load_part ty x ho g off hx k n f e hg hu hz (hK _ _ h)
set_option maxRecDepth 100000 in
set_option maxHeartbeats 4000000 in
theorem encrypt_c (k b : Bk) (hk : Byt k) (hb : Byt b) (w : World) :
    Calls Try.prog 22 #[.agg (tabV .u8 16 k), .agg (tabV .u8 16 b)] w fun e w' => e = .returned (.agg (tabV .u8 16 (enc k b))) ∧ Ext w w' := by
  have HK := Lib.hid hk
  have HB := Lib.hid hb
  obtain ⟨h0, h1, h2⟩ := new3 w (.cells (tabV .u8 16 k) 22) (.cells (tabV .u8 16 b) 22) (.cells (tabV .u8 16 (fun _ => 0)) 22)
  have hx0 := ((Ext.alloc w (.cells (tabV .u8 16 k) 22)).tr (Ext.alloc _ (.cells (tabV .u8 16 b) 22))).tr (Ext.alloc _ (.cells (tabV .u8 16 (fun _ => 0)) 22))
  have H0 := Lib.hid (show Arr _ w.heap.size 22 .u8 16 k from h0)
  have H1 := Lib.hid (show Arr _ (w.heap.size + 1) 22 .u8 16 b from h1)
  have H2 := Lib.hid (show Arr _ (w.heap.size + 1 + 1) 22 .u8 16 (fun _ => 0) from h2)
  have HX0 := Lib.hid hx0
  have zk := zero_ks
  clear hk hb h0 h1 h2 hx0
  go_enter Try.func22, Try.ntmps22
  go_wp2_with (refine wpList_load_arr rfl 22 (.tmp 2) rfl w.heap.size rfl 22 .u8 16 k _ H0.out Try.underlying22 size_bk ?_)
  refine (keys_c k HK.out _).mono ?_
  rintro e w1 ⟨rfl, hx1⟩
  have HB1 := Lib.hid (H1.out.ext hx1)
  have HC1 := Lib.hid (H2.out.ext hx1)
  have HX1 := Lib.hid (HX0.out.tr hx1)
  clear hx1
  have HGL := Lib.hid (show w.heap.size + 1 + 1 < w1.heap.size from HC1.out.lt)
  have HZ := Lib.hid (Arr.new w1 54 .u8 176 (fun _ => 0))
  go_wp2_with (first
    | (refine wpList_store_arr' rfl rfl 54 (.tmp 5) (.tmp 8) rfl w1.heap.size .u8 176 (kf k) rfl rfl 54 _ HZ.out size_ks tabV_size ?_
       intro w2 hA2 hG2
       have hgl := HGL.out
       have HK2 := Lib.hid hA2
       have HB2 := Lib.hid (show Arr w2 (w.heap.size + 1) 22 .u8 16 b from grown_get hG2 (HB1.out.ext (Ext.alloc _ _)) (by simp; omega))
       have HC2 := Lib.hid (show Arr w2 (w.heap.size + 1 + 1) 22 .u8 16 (fun _ => 0) from grown_get hG2 (HC1.out.ext (Ext.alloc _ _)) (by simp; omega))
       have HX2 := Lib.hid (HX1.out.tr (grown_new (Ext.alloc _ _) hG2 (fun g hg => by simp at hg; omega)))
       clear hA2 hG2 hgl)
    | refine wpList_load_arr rfl 22 (.tmp 3) rfl (w.heap.size + 1) rfl 22 .u8 16 b _ HB2.out Try.underlying22 size_bk ?_
    | refine wpList_load_pt rfl 22 (.tmp 10) rfl w1.heap.size 0 rfl .u8 16 k _ (key_part0 HK2.out) Try.underlying22 size_bk ?_)
  refine (xor_c b k HB.out HK.out _).mono ?_
  rintro e w3 ⟨rfl, hx3⟩
  have HK3 := Lib.hid (HK2.out.ext hx3)
  have HB3 := Lib.hid (HB2.out.ext hx3)
  have HC3 := Lib.hid (HC2.out.ext hx3)
  have HX3 := Lib.hid (HX2.out.tr hx3)
  clear hx3 HB1 HC1 HX1 HB2 HC2 HX2 HK2 HZ
  go_wp2_with (refine wpList_store_arr' rfl rfl 22 (.tmp 3) (.tmp 12) rfl (w.heap.size + 1) .u8 16 (xo b k) rfl rfl 22 _ HB3.out size_bk tabV_size ?_
               intro w4 hA4 hG4
               have hgl := HGL.out
               have HB4 := Lib.hid (show Arr w4 (w.heap.size + 1) 22 .u8 16 (est k b 0) from hA4)
               have HK4 := Lib.hid (show Arr w4 w1.heap.size 54 .u8 176 (kf k) from grown_get hG4 HK3.out (by simp; omega))
               have HC4 := Lib.hid (show Arr w4 (w.heap.size + 1 + 1) 22 .u8 16 (fun _ => 0) from grown_get hG4 HC3.out (by simp))
               have HX4 := Lib.hid (grown_new HX3.out hG4 (fun g hg => by simp at hg; omega))
               clear hA4 hG4 hgl)
  obtain ⟨gk, hgk⟩ : ∃ gk, gk = w1.heap.size := ⟨_, rfl⟩
  rw [← hgk] at HK4 HGL ⊢
  clear hgk HK3 HB3 HC3 HX3
  go_loopw [6] (fun v wr => ∃ n : Nat, 1 ≤ n ∧ n ≤ 11 ∧ v = .int .i64 n ∧ Arr wr (w.heap.size + 1) 22 .u8 16 (est k b (n - 1)) ∧ Arr wr gk 54 .u8 176 (kf k) ∧ Arr wr (w.heap.size + 1 + 1) 22 .u8 16 (fun _ => 0) ∧ Ext w wr) (fun v _ => 11 - (intOf v).toNat)
  case atStart => exact ⟨1, by omega, by omega, rfl, HB4.out, HK4.out, HC4.out, HX4.out⟩
  case round =>
    obtain ⟨n, h1, hn, rfl, hA, hKy, hC, hx⟩ := hrel
    by_cases hlt : n < 11
    · obtain ⟨wd, hwd⟩ : ∃ wd, wd = wr.drew := ⟨_, rfl⟩
      have xd : Ext wr wd := by rw [hwd]; exact Ext.drew _
      have i1 : (n : Int) < 11 := by omega
      have HA := Lib.hid (hA.ext xd)
      have HKY := Lib.hid (hKy.ext xd)
      have HC := Lib.hid (hC.ext xd)
      have HX := Lib.hid (hx.tr xd)
      have HWD := Lib.hid hwd
      clear hA hKy hC hx xd hwd
      go_wp2_with fail
      refine wp_region_ord 7 (fun W => Ext wd W) (by kernel_rfl) (by kernel_rfl) (by decide) (by kernel_rfl) (by rw [HWD.out]; exact Ext.refl _) ?_
      simp only [List.take_succ_cons, List.take_zero, List.drop_succ_cons, List.drop_zero]
      refine wpTxt_step (.agg (tabV .u8 16 (est k b (n - 1)))) (fun W K hS hK => wp_load_arr 22 (.tmp 3) rfl (w.heap.size + 1) rfl .u8 16 (est k b (n - 1)) _ _ (HA.out.ext hS) Try.underlying22 size_bk (hK _ hS)) rfl ?_
      simp only [Act.put, List.setIfInBounds_toArray, List.set_cons_zero, List.set_cons_succ]
      repeat (refine wpTxt_step ?_ (fun W K hS hK => ?_) rfl ?_; rotate_left; (simp only [Act.put, List.setIfInBounds_toArray, List.set_cons_zero, List.set_cons_succ] at hK; go_simp; exact hK _ hS); simp only [Act.put, List.setIfInBounds_toArray, List.set_cons_zero, List.set_cons_succ])
      refine wpTxt_step (.agg (tabV .u8 16 (kys k n))) (fun W K hS hK => wp_load_part 22 (.tmp 19) rfl gk (n * 16) rfl .u8 16 (kys k n) 5 (key_part (HKY.out.ext hS) hlt) Try.underlying22 size_bk (hK _ hS)) rfl ?_
      simp only [Act.put, List.setIfInBounds_toArray, List.set_cons_zero, List.set_cons_succ]
      repeat (refine wpTxt_step ?_ (fun W K hS hK => ?_) rfl ?_; rotate_left; (simp only [Act.put, List.setIfInBounds_toArray, List.set_cons_zero, List.set_cons_succ] at hK; go_simp; exact hK _ hS); simp only [Act.put, List.setIfInBounds_toArray, List.set_cons_zero, List.set_cons_succ])
      refine wpTxt_step ?_ (fun W K hS hK => ?_) rfl ?_
      rotate_left
      · simp only [Act.put, List.setIfInBounds_toArray, List.set_cons_zero, List.set_cons_succ] at hK
        go_simp
        refine (round_c (est k b (n - 1)) (kys k n) (est_byt HK.out HB.out _) (kys_byt HK.out _) ((n : Int) == 10) _).mono ?_
        rintro e W' ⟨rfl, hx'⟩
        exact hK _ (hS.tr hx')
      simp only [Act.put, List.setIfInBounds_toArray, List.set_cons_zero, List.set_cons_succ]
      refine wpTxt_nil ?_
      intro W hS
      have HA3 := Lib.hid (HA.out.ext hS)
      have HK3 := Lib.hid (HKY.out.ext hS)
      have HC3 := Lib.hid (HC.out.ext hS)
      have HX3 := Lib.hid (HX.out.tr hS)
      clear hS HA HKY HC HX
      go_wp2_with (refine wpList_store_arr' rfl rfl 22 (.tmp 3) (.tmp 23) rfl (w.heap.size + 1) .u8 16 (rnd (est k b (n - 1)) (kys k n) ((n : Int) == 10)) rfl rfl 22 _ HA3.out size_bk tabV_size ?_
                   intro w5 hA5 hG5)
      have hgl := HGL.out
      have e : rnd (est k b (n - 1)) (kys k n) ((n : Int) == 10) = est k b (n + 1 - 1) := by
        obtain ⟨m, rfl⟩ : ∃ m, n = m + 1 := ⟨n - 1, by omega⟩
        rw [Nat.add_sub_cancel, Nat.add_sub_cancel, est]
        congr 1
        exact int_eq10 _
      rw [e] at hA5
      refine ⟨⟨n + 1, by omega, by omega, by go_num, hA5, grown_get hG5 HK3.out (by simp; omega), grown_get hG5 HC3.out (by simp), grown_new HX3.out hG5 (fun g hg => by simp at hg; omega)⟩, ?_⟩
      simp only [intOf]
      omega
    · have e11 : n = 11 := by omega
      subst e11
      have HA := Lib.hid (show Arr wr (w.heap.size + 1) 22 .u8 16 (enc k b) from hA)
      have HC := Lib.hid hC
      have HX := Lib.hid hx
      clear hA hKy hC hx
      go_wp2_with (first
        | refine wpList_load_arr rfl 22 (.tmp 3) rfl (w.heap.size + 1) rfl 22 .u8 16 (enc k b) _ HA.out Try.underlying22 size_bk ?_
        | (refine wpList_store_arr' rfl rfl 22 (.tmp 4) (.tmp 24) rfl (w.heap.size + 1 + 1) .u8 16 (enc k b) rfl rfl 22 _ HC.out size_bk tabV_size ?_; intro w5 hA5 hG5))
      refine bodyPost_ret (v := .agg (tabV .u8 16 (enc k b))) ?_ rfl ⟨rfl, grown_new HX.out hG5 (fun g hg => by simp at hg; omega)⟩
      exact results_cell_row rfl _ _ _ _ _ _ _ rfl hA5 Try.underlying22 rfl (by rw [tabV_size]; exact size_bk)

end Go.Proofs.Ytdmfajcbbolfiaa
