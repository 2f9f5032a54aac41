/-
  The fixed examples that every statement of layer 1 checks first.
-/
import Derived.Test.YtbjclahjcjpfoaaRefA
namespace Go.Proofs.Ytbjclahjcjpfoaa
open Go.RowKit

set_option maxHeartbeats 1000000 in
theorem awake_c (w : World) : Calls Try.prog 8 #[] w fun e w' => e = .returned (.bool true) ∧ Ext w w' := by
  go_enter Try.func8, Try.ntmps8
  go_wp2_with fail
  refine (put_c 2 258 _ (by omega) (by omega) (by omega)).mono ?_
  rintro e w1 ⟨A1, c1, rfl, ha, hx1⟩
  have HA := Lib.hid ha
  clear ha
  go_wp2_with fail
  have hl1 := Lib.hid (RB.lit w1 [7, 8] #[.int .u8 7, .int .u8 8] 5 rfl)
  refine (puts_c 1 _ 2 [7, 8] _ _ hl1.out (by omega) (by simp) (by simp)).mono ?_
  rintro e w2 ⟨A2, c2, rfl, hb, hx2⟩
  have HB := Lib.hid hb
  clear hb
  go_wp2_with fail
  refine (put_no 1 256 _ (by omega) (.inr (by simp))).mono ?_
  rintro e w' ⟨rfl, rfl⟩
  go_wp2_with fail
  have hl2 := Lib.hid (RB.lit w2 [1, 2, 2, 7, 8] #[.int .u8 1, .int .u8 2, .int .u8 2, .int .u8 7, .int .u8 8] 5 rfl)
  refine (new_c _ 5 [1, 2, 2, 7, 8] _ _ hl2.out (by simp)).mono ?_
  rintro e w3 ⟨g, R, rfl, hg3, hr3, hx3⟩
  have HR3 := Lib.hid hr3
  clear hr3
  go_wp2_with fail
  refine (num_c 2 _ HR3.out (NoRd.u8 _ _) (by omega) (by simp)).mono ?_
  rintro e w4 ⟨rfl, hr4, hg4⟩
  have HR4 := Lib.hid hr4
  clear hr4
  go_wp2_with fail
  refine (str_c 1 _ HR4.out (NoRd.u8 _ _) (by simp) (by omega) (by simp) (by simp [be])).mono ?_
  rintro e w5 ⟨A5, c5, rfl, ho5, hr5, hg5⟩
  have HO5 := Lib.hid ho5
  have HR5 := Lib.hid hr5
  clear ho5 hr5
  go_wp2_with fail
  refine (done_c _ HR5.out).mono ?_
  rintro e w' ⟨rfl, rfl⟩
  go_wp2_with fail
  refine (num_no 1 _ HR5.out (.inr (.inr (by simp [be])))).mono ?_
  rintro e w6 ⟨rfl, hr6, hg6⟩
  have HR6 := Lib.hid hr6
  clear hr6
  go_wp2_with fail
  have x13 : Ext w1 w3 := (((Ext.alloc _ _).tr hx2).tr (Ext.alloc _ _)).tr hx3
  have x23 : Ext w2 w3 := (Ext.alloc _ _).tr hx3
  have ra := Lib.hid ((((HA.out.rb.ext x13).rd HR3.out hg4 (NoRd.u8 _ _)).rd HR4.out hg5 (NoRd.u8 _ _)).rd HR5.out hg6 (NoRd.u8 _ _))
  have rb := Lib.hid ((((HB.out.rb.ext x23).rd HR3.out hg4 (NoRd.u8 _ _)).rd HR4.out hg5 (NoRd.u8 _ _)).rd HR5.out hg6 (NoRd.u8 _ _))
  have rs := Lib.hid (HO5.out.rb.rd HR5.out hg6 (NoRd.u8 _ _))
  have x16 : Ext w w6 := by
    have hge : w.heap.size ≤ g := by have := hx1.size; have := hx2.size; simp at this; simp at hg3; omega
    have h4 := grown_new (hx1.tr x13) hg4 (fun k hk => by simp at hk; omega)
    have h5 := grown_new h4 hg5 (fun k hk => by simp at hk; omega)
    exact grown_new h5 hg6 (fun k hk => by simp at hk; omega)
  have l1 := Lib.hid (RB.lit w6 [1, 2] #[.int .u8 1, .int .u8 2] 5 rfl)
  refine (same_x A1 _ (nb 2 258) [1, 2] c1 2 _ _ _ (ra.out.ext (Ext.alloc _ _)) l1.out (by simp [nb]) (by decide)).mono ?_
  rintro e w7 ⟨rfl, hx7⟩
  go_wp2_with fail
  have l2 := Lib.hid (RB.lit w7 [2, 7, 8] #[.int .u8 2, .int .u8 7, .int .u8 8] 5 rfl)
  have x67 : Ext w6 w7 := (Ext.alloc _ _).tr hx7
  refine (same_x A2 _ (nb 1 [7, 8].length ++ [7, 8]) [2, 7, 8] c2 3 _ _ _ ((rb.out.ext x67).ext (Ext.alloc _ _)) l2.out (by simp [nb]) (by decide)).mono ?_
  rintro e w8 ⟨rfl, hx8⟩
  go_wp2_with fail
  have l3 := Lib.hid (RB.lit w8 [7, 8] #[.int .u8 7, .int .u8 8] 5 rfl)
  have x68 : Ext w6 w8 := (x67.tr (Ext.alloc _ _)).tr hx8
  refine (same_x A5 _ (List.take (be (List.take 1 (List.drop 2 [1, 2, 2, 7, 8]))) (List.drop 1 (List.drop 2 [1, 2, 2, 7, 8]))) [7, 8] c5 2 _ _ _ ((rs.out.ext x68).ext (Ext.alloc _ _)) l3.out (by decide) (by decide)).mono ?_
  rintro e w9 ⟨rfl, hx9⟩
  have x69 : Ext w6 w9 := (x68.tr (Ext.alloc _ _)).tr hx9
  have HR9 := Lib.hid (HR6.out.ext x69)
  go_wp2_with fail
  refine (bad_c _ HR9.out).mono ?_
  rintro e w' ⟨rfl, rfl⟩
  go_wp2_with fail
  refine (done_c _ HR9.out).mono ?_
  rintro e w' ⟨rfl, rfl⟩
  go_wp2_with fail
  go_ret
  exact ⟨rfl, x16.tr x69⟩

end Go.Proofs.Ytbjclahjcjpfoaa
