/-
  The law CtrMatchesReference.
-/
import Derived.Test.YtdmfajcbbolfiaaCtrV
import Derived.Test.YtdmfajcbbolfiaaTake
import Derived.Test.YtdmfajcbbolfiaaArrO
namespace Go.Proofs.Ytdmfajcbbolfiaa
open Go.RowKit
set_option linter.unusedVariables false
set_option linter.unusedSimpArgs false

/-- a part of the stream, or nothing -/
def sl (key nonce : Nat → Nat) (at_ n : Int) : List UInt8 := if 0 ≤ at_ ∧ at_ ≤ 1099511627776 ∧ 0 ≤ n ∧ n ≤ 1048576 then strm key nonce at_.toNat n.toNat else []
theorem sl_le (key nonce : Nat → Nat) (at_ n : Int) : (sl key nonce at_ n).length ≤ 1048576 := by
  unfold sl
  split
  · rw [strm_len]; omega
  · simp
theorem cs_any (key nonce : Nat → Nat) (hk : Byt key) (hn : Byt8 nonce) (at_ n : Int) (w : World) :
    Calls Try.prog 10 #[.agg (tabV .u8 16 key), .agg (tabV .u8 8 nonce), .int .i64 at_, .int .i64 n] w fun e w' => ∃ A c, e = .returned (.slice A (sl key nonce at_ n).length c) ∧ OwnB w' 5 w.heap.size A c (sl key nonce at_ n) ∧ Ext w w' := by
  unfold sl
  by_cases h : 0 ≤ at_ ∧ at_ ≤ 1099511627776 ∧ 0 ≤ n ∧ n ≤ 1048576
  · rw [if_pos h]
    obtain ⟨a, rfl⟩ := Int.eq_ofNat_of_zero_le h.1
    obtain ⟨m, rfl⟩ := Int.eq_ofNat_of_zero_le h.2.2.1
    rw [strm_len, Int.toNat_natCast, Int.toNat_natCast]
    exact cstream_c key nonce hk hn a m (by omega) (by omega) w
  · rw [if_neg h]
    exact (cstream_none key nonce at_ n (by omega) w).mono fun e w' ⟨h1, h2⟩ => ⟨none, 0, h1, OwnB.nil _ _ _, h2⟩
theorem rs_any (key nonce : Nat → Nat) (hk : Byt key) (hn : Byt8 nonce) (at_ n : Int) (w : World) :
    Calls Try.prog 11 #[.agg (tabV .u8 16 key), .agg (tabV .u8 8 nonce), .int .i64 at_, .int .i64 n] w fun e w' => ∃ A c, e = .returned (.slice A (sl key nonce at_ n).length c) ∧ OwnB w' 5 w.heap.size A c (sl key nonce at_ n) ∧ Ext w w' := by
  unfold sl
  by_cases h : 0 ≤ at_ ∧ at_ ≤ 1099511627776 ∧ 0 ≤ n ∧ n ≤ 1048576
  · rw [if_pos h]
    obtain ⟨a, rfl⟩ := Int.eq_ofNat_of_zero_le h.1
    obtain ⟨m, rfl⟩ := Int.eq_ofNat_of_zero_le h.2.2.1
    rw [strm_len, Int.toNat_natCast, Int.toNat_natCast]
    exact rstream_c key nonce hk hn a m (by omega) (by omega) w
  · rw [if_neg h]
    exact (rstream_none key nonce at_ n (by omega) w).mono fun e w' ⟨h1, h2⟩ => ⟨none, 0, h1, OwnB.nil _ _ _, h2⟩
theorem byt_wf {f : Nat → Nat} (h : ∀ i, i < 16 → (Lit.int .u8 (f i : Nat)).wf = true) : Byt f := fun i hi => by have := (bd_u8 (h i hi)).2; omega
theorem byt8_wf {f : Nat → Nat} (h : ∀ i, i < 8 → (Lit.int .u8 (f i : Nat)).wf = true) : Byt8 f := fun i hi => by have := (bd_u8 (h i hi)).2; omega
theorem bd_i16 {n : Int} (h : (Lit.int .i16 n).wf = true) : -32768 ≤ n ∧ n ≤ 32767 := by simpa [Lit.wf, IntKind.min, IntKind.max, IntKind.signed, IntKind.bits] using h
theorem bd_u16 {n : Int} (h : (Lit.int .u16 n).wf = true) : 0 ≤ n ∧ n ≤ 65535 := by simpa [Lit.wf, IntKind.min, IntKind.max, IntKind.signed, IntKind.bits] using h

/-- the boxes of the key and of the nonce -/
def HeldC (h0 h1 : Nat) (key nonce : Nat → Nat) (W : World) : Prop := Arr W h0 22 .u8 16 key ∧ Arr W h1 23 .u8 8 nonce
theorem HeldC.ext {h0 h1 : Nat} {key nonce : Nat → Nat} {W W' : World} (h : HeldC h0 h1 key nonce W) (hx : Ext W W') : HeldC h0 h1 key nonce W' := ⟨h.1.ext hx, h.2.ext hx⟩

set_option maxRecDepth 100000 in
set_option maxHeartbeats 4000000 in
theorem ctrMatchesReference_walk (key nonce : Nat → Nat) (at_ n : Int) (w : World) (hk' : ∀ i, i < 16 → (Lit.int .u8 (key i : Nat)).wf = true) (hn' : ∀ i, i < 8 → (Lit.int .u8 (nonce i : Nat)).wf = true) (ha : (Lit.int .i64 at_).wf = true) (hm : (Lit.int .i16 n).wf = true) :
    Calls Try.prog 3 #[.agg (tabV .u8 16 key), .agg (tabV .u8 8 nonce), .int .i64 at_, .int .i16 n] w fun e w' => e = .returned (.bool true) ∧ Ext w w' := by
  have HK := Lib.hid (byt_wf hk')
  have HN := Lib.hid (byt8_wf hn')
  have hb := bd_i16 hm
  obtain ⟨h0, h1⟩ := two_new w (.cells (tabV .u8 16 key) 22) (.cells (tabV .u8 8 nonce) 23)
  have HX := Lib.hid ((Ext.alloc w (.cells (tabV .u8 16 key) 22)).tr (Ext.alloc _ (.cells (tabV .u8 8 nonce) 23)))
  have HH := Lib.hid (show HeldC w.heap.size (w.heap.size + 1) key nonce _ from ⟨h0, h1⟩)
  clear h0 h1 hk' hn' ha hm
  go_enter Try.func3, Try.ntmps3
  go_wp2_with fail
  refine (awake_c _).mono ?_
  rintro e w1 ⟨rfl, hx1⟩
  have HX1 := Lib.hid (HX.out.tr hx1)
  have HH1 := Lib.hid (HH.out.ext hx1)
  clear hx1 HX HH
  go_wp2_with fail
  obtain ⟨m, hm⟩ : ∃ m : Int, m = n.tmod 500 := ⟨_, rfl⟩
  rw [← hm]
  obtain ⟨l, hl⟩ : ∃ l, l = sl key nonce at_ m := ⟨_, rfl⟩
  have hll : l.length ≤ 1048576 := by rw [hl]; exact sl_le _ _ _ _
  have HL := Lib.hid hl
  have HLL := Lib.hid hll
  clear hl hm hll hb
  refine wp_region_held_drew (S := HeldC w.heap.size (w.heap.size + 1) key nonce) (by kernel_rfl) (HH1.out.ext (Ext.drew w1)) (fun hHeld => ?_)
  refine wpAnyH_take_arr 0 rfl (by kernel_rfl) (by kernel_rfl) (by kernel_rfl) (fun _ _ _ _ h => h) (by kernel_rfl) 22 (.tmp 4) rfl w.heap.size 0 rfl .u8 16 key _ (fun w hw => rangeAt_arr hw.1) Try.underlying22 size_bk hHeld ?_
  refine wpAnyH_take_arr 1 rfl (by kernel_rfl) (by kernel_rfl) (by kernel_rfl) (fun _ _ _ _ h => h) (by kernel_rfl) 23 (.tmp 5) rfl (w.heap.size + 1) 0 rfl .u8 8 nonce _ (fun w hw => rangeAt_arr hw.2) Try.underlying23 size_nc hHeld ?_
  refine wpAnyH_take_move 2 rfl (by kernel_rfl) (by kernel_rfl) (by kernel_rfl) (fun _ _ _ _ h => h) (by kernel_rfl) (.tmp 2) rfl (.int .i64 at_) rfl hHeld ?_
  refine wpAnyH_take_move 3 rfl (by kernel_rfl) (by kernel_rfl) (by kernel_rfl) (fun _ _ _ _ h => h) (by kernel_rfl) (.tmp 9) rfl (.int .i64 m) rfl hHeld ?_
  refine wpAnyH_take_arr 5 rfl (by kernel_rfl) (by kernel_rfl) (by kernel_rfl) (fun _ _ _ _ h => h) (by kernel_rfl) 22 (.tmp 4) rfl w.heap.size 0 rfl .u8 16 key _ (fun w hw => rangeAt_arr hw.1) Try.underlying22 size_bk hHeld ?_
  refine wpAnyH_take_arr 6 rfl (by kernel_rfl) (by kernel_rfl) (by kernel_rfl) (fun _ _ _ _ h => h) (by kernel_rfl) 23 (.tmp 5) rfl (w.heap.size + 1) 0 rfl .u8 8 nonce _ (fun w hw => rangeAt_arr hw.2) Try.underlying23 size_nc hHeld ?_
  refine wpAnyH_take_move 7 rfl (by kernel_rfl) (by kernel_rfl) (by kernel_rfl) (fun _ _ _ _ h => h) (by kernel_rfl) (.tmp 2) rfl (.int .i64 at_) rfl hHeld ?_
  refine wpAnyH_take_move 8 rfl (by kernel_rfl) (by kernel_rfl) (by kernel_rfl) (fun _ _ _ _ h => h) (by kernel_rfl) (.tmp 9) rfl (.int .i64 m) rfl hHeld ?_
  try simp only [Act.put, List.setIfInBounds_toArray, List.set_cons_zero, List.set_cons_succ]
  refine wpAnyH_ready (rs := [4]) (by kernel_rfl) (by simp) ?_
  refine AllReadyH.cons rfl (fun K hK => ?_) AllReadyH.nil
  go_simp
  refine (cs_any key nonce HK.out HN.out at_ m _).mono ?_
  rw [← HL.out]
  rintro e v1 ⟨A1, c1, rfl, ho1, hx1⟩
  have HO1 := Lib.hid ho1
  have HX2 := Lib.hid ((HX1.out.tr (Ext.drew w1)).tr hx1)
  refine hK.out _ _ (hHeld.ext hx1) (fun hHeld1 => ?_)
  clear hK K ho1 hx1
  try simp only [Act.put, List.setIfInBounds_toArray, List.set_cons_zero, List.set_cons_succ]
  refine wpAnyH_ready (rs := [9]) (by kernel_rfl) (by simp) ?_
  refine AllReadyH.cons rfl (fun K hK => ?_) AllReadyH.nil
  go_simp
  refine (rs_any key nonce HK.out HN.out at_ m _).mono ?_
  rw [← HL.out]
  rintro e v2 ⟨A2, c2, rfl, ho2, hx2⟩
  have HO1 := Lib.hid (HO1.out.ext hx2)
  have HO2 := Lib.hid ho2
  have HX3 := Lib.hid (HX2.out.tr hx2)
  refine hK.out _ _ (hHeld1.ext hx2) (fun hHeld2 => ?_)
  clear hK K ho2 hx2
  try simp only [Act.put, List.setIfInBounds_toArray, List.set_cons_zero, List.set_cons_succ]
  refine wpAnyH_ready (rs := [10]) (by kernel_rfl) (by simp) ?_
  refine AllReadyH.cons rfl (fun K hK => ?_) AllReadyH.nil
  go_simp
  refine (same_x A1 A2 l l c1 c2 _ _ _ HO1.out.rb HO2.out.rb (by have := HLL.out; omega) rfl).mono ?_
  rintro e v3 ⟨rfl, hx3⟩
  have HX4 := Lib.hid (HX3.out.tr hx3)
  refine hK.out _ _ (hHeld2.ext hx3) (fun hHeld3 => ?_)
  clear hK K hx3
  try simp only [Act.put, List.setIfInBounds_toArray, List.set_cons_zero, List.set_cons_succ]
  refine wpAnyH_ready (rs := [11]) (by kernel_rfl) (by simp) ?_
  refine AllReadyH.cons rfl (fun K hK => ?_) AllReadyH.nil
  go_simp
  refine hK.out _ _ hHeld3 (fun _ => ?_)
  clear hK K
  try simp only [Act.put, List.setIfInBounds_toArray, List.set_cons_zero, List.set_cons_succ]
  refine wpAnyH_done (by kernel_rfl) ?_ _
  go_wp2_with fail
  go_ret
  exact ⟨rfl, HX4.out⟩
end Go.Proofs.Ytdmfajcbbolfiaa
