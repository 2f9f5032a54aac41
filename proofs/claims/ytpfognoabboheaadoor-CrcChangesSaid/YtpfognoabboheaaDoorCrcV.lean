/-
  Package tolllaw10: the example that every law asks first.
-/
import Derived.Test.YtpfognoabboheaaDoorCrcS
import Derived.Test.YtpfognoabboheaaDoorMark
namespace Go.Proofs.YtpfognoabboheaaDoor
open Go.RowKit

theorem ex_sum : cs [49, 50, 51, 52, 53, 54, 55, 56, 57] = 3808858755 := by kernel_rfl
theorem ex_none : cs [] = 0 := by kernel_rfl
theorem ex_short : chk [1, 2, 3] = false := by kernel_rfl

set_option maxRecDepth 100000 in
set_option maxHeartbeats 2000000 in
theorem awake_c (w : World) : Calls Tryd.prog 6 #[] w fun e w' => e = .returned (.bool true) ∧ Ext w w' := by
  have hl0 := RB.lit w [1, 2] #[.int .u8 1, .int .u8 2] 5 rfl
  have H0 := Lib.hid hl0
  clear hl0
  go_enter Tryd.func6, Tryd.ntmps6
  go_wp2_with fail
  refine (append_c (some ⟨w.heap.size, 0, none⟩) 2 [1, 2] _ _ H0.out (by simp)).mono ?_
  rintro e w1 ⟨A, a, rfl, ho, hx1⟩
  have hy := check_yes A a (apd [1, 2]) _ w1 ho.rb (by rw [apd_len]; simp) (chk_apd _)
  rw [take_apd] at hy
  have HX1 := Lib.hid ((Ext.alloc _ _).tr hx1)
  have HY := Lib.hid hy
  clear ho hx1 hy
  go_wp2_with fail
  refine HY.out.mono ?_
  rintro e w2 ⟨B, b, rfl, hb, hx2⟩
  have HX2 := Lib.hid (HX1.out.tr hx2)
  have HB := Lib.hid hb
  have hl3 := RB.lit w2 [1, 2, 3] #[.int .u8 1, .int .u8 2, .int .u8 3] 5 rfl
  have H3 := Lib.hid hl3
  clear hx2 hb hl3
  go_wp2_with fail
  refine (check_no (some ⟨w2.heap.size, 0, none⟩) 3 [1, 2, 3] _ _ H3.out (by simp) ex_short).mono ?_
  rintro e w3 ⟨rfl, hx3⟩
  have hx23 := (Ext.alloc w2 (.cells #[.int .u8 1, .int .u8 2, .int .u8 3] 5)).tr hx3
  have HX3 := Lib.hid (HX2.out.tr hx23)
  have HB3 := Lib.hid (HB.out.ext hx23)
  clear hx3 hx23
  go_wp2_with (first
    | (refine wpList_mark rfl 24 5 (.tmp 16) rfl Tryd.underlying24 Tryd.underlying5 w3.heap.size 4 4 _ _ rfl (new_of _ _) ?_
       intro W1 fr1 h1 lz1 ex1
       have hx1 : Ext w3 W1 := ex1 w3 (Nat.le_refl _) (Ext.alloc _ _)
       have X1 := Lib.hid hx1
       have R1 := Lib.hid (lit_rb h1 [49, 50, 51, 52] rfl)
       clear h1 lz1 ex1 hx1)
    | (refine wpList_mark rfl 24 5 (.tmp 18) rfl Tryd.underlying24 Tryd.underlying5 W1.heap.size 5 5 _ _ rfl (new_of _ _) ?_
       intro W2 fr2 h2 lz2 ex2
       have hx2 : Ext W1 W2 := ex2 W1 (Nat.le_refl _) (Ext.alloc _ _)
       have X2 := Lib.hid (X1.out.tr hx2)
       have R2 := Lib.hid (R1.out.ext hx2)
       have Q2 := Lib.hid (lit_rb h2 [53, 54, 55, 56, 57] rfl)
       clear h2 lz2 ex2 hx2))
  have hmr := rbs_new2 (t := 24) (c := 4) (d := 5) R2.out Q2.out
  refine (sum_c (some ⟨W2.heap.size, 0, none⟩) 2 [[49, 50, 51, 52], [53, 54, 55, 56, 57]] _ _ _ hmr (by simp [fla]) (by simp)).mono ?_
  rintro e w4 ⟨rfl, hx4⟩
  have e4 : cs (fla [[49, 50, 51, 52], [53, 54, 55, 56, 57]]) = 3808858755 := by rw [fla, flat_two]; exact ex_sum
  rw [e4]
  have HX4 := Lib.hid ((X2.out.tr (Ext.alloc _ _)).tr hx4)
  clear hx4 e4 hmr
  go_wp2_with fail
  refine (sum_c none 0 [] (fun _ _ => True) (fun _ _ => True) _ (fun h => absurd h (by simp)) (by simp [fla]) (by simp)).mono ?_
  rintro e w5 ⟨rfl, hx5⟩
  rw [show cs (fla []) = 0 from ex_none]
  have HX5 := Lib.hid (HX4.out.tr hx5)
  have HB5 := Lib.hid (HB3.out.ext HX5.out)
  have hl5 := RB.lit w5 [1, 2] #[.int .u8 1, .int .u8 2] 5 rfl
  have hb5' := HB5.out.rb.ext (Ext.alloc w5 (.cells #[.int .u8 1, .int .u8 2] 5))
  have L5 := Lib.hid hl5
  have B5 := Lib.hid hb5'
  clear hx5 hl5 hb5'
  go_wp2_with fail
  refine (same_x B (some ⟨w5.heap.size, 0, none⟩) [1, 2] [1, 2] b 2 _ _ _ B5.out L5.out (by simp) rfl).mono ?_
  rintro e w6 ⟨rfl, hx6⟩
  have HX6 := Lib.hid ((HX5.out.tr (Ext.alloc _ _)).tr hx6)
  clear hx6
  go_wp2_with fail
  refine (step1_c _).mono ?_
  rintro e w6' ⟨rfl, rfl⟩
  go_wp2_with fail
  refine (step5_c _).mono ?_
  rintro e w6' ⟨rfl, rfl⟩
  go_wp2_with fail
  refine (update_c 0 (by omega) none 0 [] (fun _ _ => True) _ (RB.nil _ _ _) (by simp)).mono ?_
  rintro e w7 ⟨rfl, hx7⟩
  rw [show up 0 [] = 0 from ex_none]
  have HX7 := Lib.hid (HX6.out.tr hx7)
  clear hx7
  go_wp2_with fail
  go_ret
  exact ⟨rfl, HX3.out.tr HX7.out⟩
end Go.Proofs.YtpfognoabboheaaDoor
