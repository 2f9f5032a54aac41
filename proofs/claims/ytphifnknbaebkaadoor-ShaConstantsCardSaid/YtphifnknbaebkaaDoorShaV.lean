/-
  The fixed examples of layer 4: the digests of no bytes and of abc, by the kernel.
-/
import Derived.Test.YtphifnknbaebkaaDoorShaE
import Derived.Lib.SlBytesConst
namespace Go.Proofs.YtphifnknbaebkaaDoor
open Go.RowKit

theorem sum_e0 : sum kc [] 0 = 227 := by kernel_rfl
theorem sum_e1 : sum kc [] 1 = 176 := by kernel_rfl
theorem sum_e2 : sum kc [] 2 = 196 := by kernel_rfl
theorem sum_e31 : sum kc [] 31 = 85 := by kernel_rfl
theorem sum_a0 : sum kc [97, 98, 99] 0 = 186 := by kernel_rfl
theorem sum_a1 : sum kc [97, 98, 99] 1 = 120 := by kernel_rfl
theorem sum_a2 : sum kc [97, 98, 99] 2 = 22 := by kernel_rfl
theorem sum_a31 : sum kc [97, 98, 99] 31 = 173 := by kernel_rfl
theorem pad0 : (pad 0).length = 64 := by kernel_rfl
theorem kc0 : kc 0 = 1116352408 := by kernel_rfl
theorem st00 : st0.get 0 = 1779033703 := by kernel_rfl

theorem padding_i (n : Nat) (i : Int) (hi : i = n) (hn : n ≤ 281474976710656) (w : World) :
    Calls Tryd.prog 20 #[.int .i64 i] w fun e w' => ∃ A c, e = .returned (.slice A (pad n).length c) ∧ OwnB w' 5 w.heap.size A c (pad n) ∧ Ext w w' := by
  subst hi
  exact padding_c n hn w
theorem const0 (w : World) (ht : Tab w) : Calls Tryd.prog 16 #[.int .i64 0] w fun e w' => e = .returned (.tuple #[.int .u32 1116352408, .bool true]) ∧ w = w' := by
  have h := const_in 0 (by decide) w ht
  rw [kc0] at h
  exact h
theorem const64 (w : World) : Calls Tryd.prog 16 #[.int .i64 64] w fun e w' => e = .returned (.tuple #[.int .u32 0, .bool false]) ∧ w = w' := const_out 64 (.inr (by decide)) w
/-- the bytes of abc, and the part that they are -/
theorem abc_rows (w : World) : RBC ((w.alloc (.cells #[.int .u8 97, .int .u8 98, .int .u8 99] 5 (3, 4))).alloc (.cells #[.slice (some ⟨w.heap.size, 0, none⟩) 3 3] 24)) (fun _ _ => True) (fun _ _ => True) (some ⟨w.heap.size + 1, 0, none⟩) [[97, 98, 99]] := by
  intro _
  obtain ⟨h1, h2⟩ := two_new w (.cells #[.int .u8 97, .int .u8 98, .int .u8 99] 5 (3, 4)) (.cells #[.slice (some ⟨w.heap.size, 0, none⟩) 3 3] 24)
  refine ⟨_, 0, _, _, _, rfl, h2, trivial, fun j l hj => ?_⟩
  rcases j with _ | j
  · simp at hj
    subst hj
    refine ⟨_, 3, rfl, fun _ => ⟨_, 0, _, _, _, rfl, h1, trivial, fun i b hb => ?_⟩, by simp, by simp⟩
    rcases i with _ | _ | _ | i
    · simp at hb; subst hb; rfl
    · simp at hb; subst hb; rfl
    · simp at hb; subst hb; rfl
    · simp at hb
  · simp at hj

theorem sum_none (w : World) (ht : Tab w) : Calls Tryd.prog 10 #[.slice none 0 0] w fun e w' => e = .returned (.agg (tabV .u8 32 (sum kc []))) ∧ Ext w w' :=
  sum_c none 0 [] (fun _ _ => True) (fun _ _ => True) w ht (RBC.nil _ _ _ _) (by simp [fla]) (by simp)
theorem sum_abc (w : World) (ht : Tab w) : Calls Tryd.prog 10 #[.slice (some ⟨w.heap.size + 1, 0, none⟩) 1 1] ((w.alloc (.cells #[.int .u8 97, .int .u8 98, .int .u8 99] 5 (3, 4))).alloc (.cells #[.slice (some ⟨w.heap.size, 0, none⟩) 3 3] 24))
    fun e w' => e = .returned (.agg (tabV .u8 32 (sum kc [97, 98, 99]))) ∧ Ext w w' :=
  (sum_c (some ⟨w.heap.size + 1, 0, none⟩) 1 [[97, 98, 99]] _ _ _ (ht.ext ((Ext.alloc _ _).tr (Ext.alloc _ _))) (abc_rows w) (by simp [fla]) (by simp)).mono fun _ _ ⟨he, hx⟩ => ⟨he, ((Ext.alloc _ _).tr (Ext.alloc _ _)).tr hx⟩

theorem start_first (W : World) : (Instr.index 32 (.agg (tabV .u32 8 st0.get)) (.int .i64 0)).run Tryd.prog W = .ok (.int .u32 1779033703) W := by
  have h := run_index_tab (P := Tryd.prog) (t := 32) Tryd.underlying32 Tryd.underlying31 size_u32 st0.get 0 (by decide) W
  rw [st00] at h
  exact h

set_option maxRecDepth 100000 in
set_option maxHeartbeats 2000000 in
theorem awake_c (w : World) (ht : Tab w) : Calls Tryd.prog 8 #[] w fun e w' => e = .returned (.bool true) ∧ Ext w w' := by
  have HT := Lib.hid ht
  clear ht
  have kcv := fun (w : World) (C : Array Value) (n c : Nat) => Lib.run_convert_bytes_const (P := Tryd.prog) w 24 5 C n c Tryd.underlying24 Tryd.underlying5
  go_enter Tryd.func8, Tryd.ntmps8
  go_wp2_with fail
  refine (sum_none _ HT.out).mono ?_
  rintro e w1 ⟨rfl, hx1⟩
  have HX1 := Lib.hid hx1
  clear hx1
  go_wp2_with (refine wpList_store_arr rfl 26 (.tmp 1) (.tmp 7) rfl w1.heap.size .u8 32 (sum kc []) rfl rfl 26 _ (new_of _ _) size_dig rfl ?_; intro W hA hG)
  have HX2 := Lib.hid (HX1.out.tr (grown_new (Ext.alloc _ _) hG (fun g hg => by simp at hg; omega)))
  have HA1 := Lib.hid hA
  clear hA hG
  refine (sum_abc _ (HT.out.ext HX2.out)).mono ?_
  rintro e w3 ⟨rfl, hx3⟩
  have HX3 := Lib.hid (HX2.out.tr hx3)
  have HA3 := Lib.hid (HA1.out.ext hx3)
  clear hx3
  go_wp2_with (refine wpList_store_arr rfl 26 (.tmp 2) (.tmp 11) rfl w3.heap.size .u8 32 (sum kc [97, 98, 99]) rfl rfl 26 _ (new_of _ _) size_dig rfl ?_; intro V hA hG)
  have hxv : Ext w3 V := grown_new (Ext.alloc _ _) hG (fun g hg => by simp at hg; omega)
  have HXV := Lib.hid (HX3.out.tr hxv)
  have HAV := Lib.hid (HA3.out.ext hxv)
  have HBV := Lib.hid hA
  clear hA hG hxv
  refine (const0 _ (HT.out.ext HXV.out)).mono ?_
  rintro e w' ⟨rfl, rfl⟩
  go_wp2_with fail
  refine (const64 _).mono ?_
  rintro e w' ⟨rfl, rfl⟩
  have a0 := HAV.out.cell (i := 0) (by omega)
  have a1 := HAV.out.cell (i := 1) (by omega)
  have a2 := HAV.out.cell (i := 2) (by omega)
  have a31 := HAV.out.cell (i := 31) (by omega)
  have b0 := HBV.out.cell (i := 0) (by omega)
  have b1 := HBV.out.cell (i := 1) (by omega)
  have b2 := HBV.out.cell (i := 2) (by omega)
  have b31 := HBV.out.cell (i := 31) (by omega)
  rw [sum_e0] at a0
  rw [sum_e1] at a1
  rw [sum_e2] at a2
  rw [sum_e31] at a31
  rw [sum_a0] at b0
  rw [sum_a1] at b1
  rw [sum_a2] at b2
  rw [sum_a31] at b31
  go_wp2_with fail
  refine (start_c _).mono ?_
  rintro e w5 ⟨rfl, hx5⟩
  have HX5 := Lib.hid hx5
  have hi0 := start_first
  clear hx5 a0 a1 a2 a31 b0 b1 b2 b31
  go_wp2_with fail
  refine (padding_i 0 0 rfl (by decide) _).mono ?_
  rintro e w6 ⟨A6, c6, rfl, _, hx6⟩
  rw [pad0]
  go_wp2_with fail
  go_ret
  exact ⟨rfl, (HXV.out.tr HX5.out).tr hx6⟩
end Go.Proofs.YtphifnknbaebkaaDoor
