/-
  Package aes: rounds, encryption, decryption.
-/
import Derived.Test.YtdmfajcbbolfiaaAesE
namespace Go.Proofs.Ytdmfajcbbolfiaa
open Go.RowKit

theorem tab_b1 : tabV .u8 4 b1 = #[.int .u8 2, .int .u8 3, .int .u8 1, .int .u8 1] := rfl
theorem tab_b2 : tabV .u8 4 b2 = #[.int .u8 14, .int .u8 11, .int .u8 13, .int .u8 9] := rfl
set_option maxRecDepth 100000 in
set_option maxHeartbeats 2000000 in
theorem round_c (f k : Bk) (hf : Byt f) (hk : Byt k) (last : Bool) (w : World) :
    Calls Try.prog 28 #[.agg (tabV .u8 16 f), .agg (tabV .u8 16 k), .bool last] w fun e w' => e = .returned (.agg (tabV .u8 16 (rnd f k last))) ∧ Ext w w' := by
  have HF := Lib.hid hf
  have HK := Lib.hid hk
  have hm := fun W => mixed_c b1 (mv 1 (ea sb f)) b1_lt (mv_byt 1 (ea_sb hf)) W
  rw [tab_b1] at hm
  have HM := Lib.hid hm
  obtain ⟨h0, h1, h2⟩ := new3 w (.cells (tabV .u8 16 f) 22) (.cells (tabV .u8 16 k) 22) (.cells (tabV .u8 16 (fun _ => 0)) 22)
  have hx0 := ((Ext.alloc w (.cells (tabV .u8 16 f) 22)).tr (Ext.alloc _ (.cells (tabV .u8 16 k) 22))).tr (Ext.alloc _ (.cells (tabV .u8 16 (fun _ => 0)) 22))
  have H0 := Lib.hid (show Arr _ w.heap.size 22 .u8 16 f from h0)
  have H1 := Lib.hid (show Arr _ (w.heap.size + 1) 22 .u8 16 k from h1)
  have H2 := Lib.hid (show Arr _ (w.heap.size + 1 + 1) 22 .u8 16 (fun _ => 0) from h2)
  have HX0 := Lib.hid hx0
  clear hf hk hm h0 h1 h2 hx0
  go_enter Try.func28, Try.ntmps28
  go_wp2_with (refine wpList_load_arr rfl 22 (.tmp 3) rfl w.heap.size rfl 22 .u8 16 f _ H0.out Try.underlying22 size_bk ?_)
  refine (each_c _ sb byFn_sub f HF.out _).mono ?_
  rintro e w1 ⟨rfl, hx1⟩
  have H0 := Lib.hid (H0.out.ext hx1)
  have H1 := Lib.hid (H1.out.ext hx1)
  have H2 := Lib.hid (H2.out.ext hx1)
  have HX := Lib.hid (HX0.out.tr hx1)
  clear hx1
  go_wp2_with fail
  refine (moved_c 1 (.inl rfl) (ea sb f) (ea_sb HF.out) _).mono ?_
  rintro e w2 ⟨rfl, hx2⟩
  have H0 := Lib.hid (H0.out.ext hx2)
  have H1 := Lib.hid (H1.out.ext hx2)
  have H2 := Lib.hid (H2.out.ext hx2)
  have HX := Lib.hid (HX.out.tr hx2)
  clear hx2
  have tail : ∀ (g : Bk), Byt g → True := fun _ _ => trivial
  clear tail
  cases last with
  | true =>
    go_wp2_with (first
      | (refine wpList_store_arr' rfl rfl 22 (.tmp 3) (.tmp 9) rfl w.heap.size .u8 16 (mv 1 (ea sb f)) rfl rfl 22 _ H0.out size_bk tabV_size ?_
         intro w3 hA3 hG3
         have HA3 := Lib.hid hA3
         have HB3 := Lib.hid (show Arr w3 (w.heap.size + 1) 22 .u8 16 k from grown_get hG3 H1.out (by simp))
         have HC3 := Lib.hid (show Arr w3 (w.heap.size + 1 + 1) 22 .u8 16 (fun _ => 0) from grown_get hG3 H2.out (by simp; omega))
         have HX3 := Lib.hid (grown_new HX.out hG3 (fun g hg => by simp at hg; omega))
         clear hA3 hG3)
      | refine wpList_load_arr rfl 22 (.tmp 3) rfl w.heap.size rfl 22 .u8 16 (mv 1 (ea sb f)) _ HA3.out Try.underlying22 size_bk ?_
      | refine wpList_load_arr rfl 22 (.tmp 4) rfl (w.heap.size + 1) rfl 22 .u8 16 k _ HB3.out Try.underlying22 size_bk ?_)
    refine (xor_c (mv 1 (ea sb f)) k (mv_byt 1 (ea_sb HF.out)) HK.out _).mono ?_
    rintro e w4 ⟨rfl, hx4⟩
    have HC4 := Lib.hid (HC3.out.ext hx4)
    have HX4 := Lib.hid (HX3.out.tr hx4)
    clear hx4
    go_wp2_with (refine wpList_store_arr' rfl rfl 22 (.tmp 6) (.tmp 17) rfl (w.heap.size + 1 + 1) .u8 16 (xo (mv 1 (ea sb f)) k) rfl rfl 22 _ HC4.out size_bk tabV_size ?_; intro w5 hA5 hG5)
    refine bodyPost_ret (v := .agg (tabV .u8 16 (xo (mv 1 (ea sb f)) k))) ?_ rfl ⟨rfl, grown_new HX4.out hG5 (fun g hg => by simp at hg; omega)⟩
    exact results_cell_row rfl _ _ _ _ _ _ _ rfl hA5 Try.underlying22 rfl (by rw [tabV_size]; exact size_bk)
  | false =>
    go_wp2_with (first
      | (refine wpList_store_arr' rfl rfl 22 (.tmp 3) (.tmp 9) rfl w.heap.size .u8 16 (mv 1 (ea sb f)) rfl rfl 22 _ H0.out size_bk tabV_size ?_
         intro w3 hA3 hG3
         have HA3 := Lib.hid hA3
         have HB3 := Lib.hid (show Arr w3 (w.heap.size + 1) 22 .u8 16 k from grown_get hG3 H1.out (by simp))
         have HC3 := Lib.hid (show Arr w3 (w.heap.size + 1 + 1) 22 .u8 16 (fun _ => 0) from grown_get hG3 H2.out (by simp; omega))
         have HX3 := Lib.hid (grown_new HX.out hG3 (fun g hg => by simp at hg; omega))
         clear hA3 hG3)
      | refine wpList_load_arr rfl 22 (.tmp 3) rfl w.heap.size rfl 22 .u8 16 (mv 1 (ea sb f)) _ HA3.out Try.underlying22 size_bk ?_)
    refine (HM.out _).mono ?_
    rintro e w4 ⟨rfl, hx4⟩
    have HA4 := Lib.hid (HA3.out.ext hx4)
    have HB4 := Lib.hid (HB3.out.ext hx4)
    have HC4 := Lib.hid (HC3.out.ext hx4)
    have HX4 := Lib.hid (HX3.out.tr hx4)
    clear hx4
    go_wp2_with (first
      | (refine wpList_store_arr' rfl rfl 22 (.tmp 3) (.tmp 14) rfl w.heap.size .u8 16 (mx b1 (mv 1 (ea sb f))) rfl rfl 22 _ HA4.out size_bk tabV_size ?_
         intro w5 hA5 hG5
         have HA5 := Lib.hid hA5
         have HB5 := Lib.hid (show Arr w5 (w.heap.size + 1) 22 .u8 16 k from grown_get hG5 HB4.out (by simp))
         have HC5 := Lib.hid (show Arr w5 (w.heap.size + 1 + 1) 22 .u8 16 (fun _ => 0) from grown_get hG5 HC4.out (by simp; omega))
         have HX5 := Lib.hid (grown_new HX4.out hG5 (fun g hg => by simp at hg; omega))
         clear hA5 hG5)
      | refine wpList_load_arr rfl 22 (.tmp 3) rfl w.heap.size rfl 22 .u8 16 (mx b1 (mv 1 (ea sb f))) _ HA5.out Try.underlying22 size_bk ?_
      | refine wpList_load_arr rfl 22 (.tmp 4) rfl (w.heap.size + 1) rfl 22 .u8 16 k _ HB5.out Try.underlying22 size_bk ?_)
    refine (xor_c (mx b1 (mv 1 (ea sb f))) k (mx_byt b1_lt (mv_byt 1 (ea_sb HF.out))) HK.out _).mono ?_
    rintro e w6 ⟨rfl, hx6⟩
    have HC6 := Lib.hid (HC5.out.ext hx6)
    have HX6 := Lib.hid (HX5.out.tr hx6)
    clear hx6
    go_wp2_with (refine wpList_store_arr' rfl rfl 22 (.tmp 6) (.tmp 17) rfl (w.heap.size + 1 + 1) .u8 16 (xo (mx b1 (mv 1 (ea sb f))) k) rfl rfl 22 _ HC6.out size_bk tabV_size ?_; intro w7 hA7 hG7)
    refine bodyPost_ret (v := .agg (tabV .u8 16 (xo (mx b1 (mv 1 (ea sb f))) k))) ?_ rfl ⟨rfl, grown_new HX6.out hG7 (fun g hg => by simp at hg; omega)⟩
    exact results_cell_row rfl _ _ _ _ _ _ _ rfl hA7 Try.underlying22 rfl (by rw [tabV_size]; exact size_bk)
end Go.Proofs.Ytdmfajcbbolfiaa
