/-
  The package's substitutions, powers and sums of products.
-/
import Derived.Test.YtdmfajcbbolfiaaFldA
namespace Go.Proofs.Ytdmfajcbbolfiaa
open Go.RowKit

theorem rt_int (b n : Nat) (hb : b < 256) (x y : Int) (hx : x = (b * 2 ^ (8 - n) % 256 : Nat)) (hy : y = (b / 2 ^ n : Nat)) : bits .or .u8 x y = (rt b n : Nat) := by
  subst hx hy
  rw [u8_or_nat _ _ (Nat.mod_lt _ (by decide)) (Nat.lt_of_le_of_lt (Nat.div_le_self _ _) hb)]
  rfl
set_option maxRecDepth 100000 in
theorem rot_c (b n : Nat) (hb : b < 256) (hn : n = 2 ∨ n = 4 ∨ n = 5 ∨ n = 6 ∨ n = 7) (m : Int) (hm : m = -n) (w : World) : Calls Try.prog 48 #[.int .u8 b, .int .i64 m] w fun e w' => e = .returned (.int .u8 (rt b n : Nat)) ∧ w' = w := by
  subst hm
  rcases hn with rfl | rfl | rfl | rfl | rfl <;>
  · go_enter Try.func48, Try.ntmps48
    have q2 : bits .and .u64 (IntKind.u64.wrap (-2)) 7 = 6 := by decide +kernel
    have q4 : bits .and .u64 (IntKind.u64.wrap (-4)) 7 = 4 := by decide +kernel
    have q5 : bits .and .u64 (IntKind.u64.wrap (-5)) 7 = 3 := by decide +kernel
    have q6 : bits .and .u64 (IntKind.u64.wrap (-6)) 7 = 2 := by decide +kernel
    have q7 : bits .and .u64 (IntKind.u64.wrap (-7)) 7 = 1 := by decide +kernel
    go_wp2_with fail
    go_ret
    refine ⟨?_, rfl⟩
    exact congrArg (fun z => Ending.returned (Value.int .u8 z)) (rt_int b _ hb _ _ (by simp) (by simp))
set_option maxRecDepth 100000 in
theorem turn_c (b n : Nat) (hb : b < 256) (hn : n = 2 ∨ n = 4 ∨ n = 5 ∨ n = 6 ∨ n = 7) (m : Int) (hm : m = n) (w : World) : Calls Try.prog 43 #[.int .u8 b, .int .i64 m] w fun e w' => e = .returned (.int .u8 (rt b n : Nat)) ∧ w' = w := by
  subst hm
  rcases hn with rfl | rfl | rfl | rfl | rfl <;>
  · go_enter Try.func43, Try.ntmps43
    go_wp2_with fail
    refine (rot_c b _ hb (by decide) _ rfl _).mono ?_
    rintro e v ⟨rfl, rfl⟩
    go_wp2_with fail
    go_ret
    exact ⟨rfl, rfl⟩
def sb (a : Nat) : Nat := gi a ^^^ rt (gi a) 4 ^^^ rt (gi a) 5 ^^^ rt (gi a) 6 ^^^ rt (gi a) 7 ^^^ 99
def usb (a : Nat) : Nat := gi (rt a 2 ^^^ rt a 5 ^^^ rt a 7 ^^^ 5)
set_option maxRecDepth 100000 in
theorem sub_c (a : Nat) (ha : a < 256) (w : World) : Calls Try.prog 38 #[.int .u8 a] w fun e w' => e = .returned (.int .u8 (sb a : Nat)) ∧ w' = w := by
  have hb := gi_lt a ha
  obtain ⟨b, hbb⟩ : ∃ b, b = gi a := ⟨_, rfl⟩
  have HB := Lib.hid hbb
  rw [← hbb] at hb
  clear hbb
  go_enter Try.func38, Try.ntmps38
  go_wp2_with fail
  refine (inverse_c a ha _).mono ?_
  rintro e v ⟨rfl, rfl⟩
  rw [← HB.out]
  go_wp2_with fail
  refine (turn_c b 4 hb (by decide) _ rfl _).mono ?_
  rintro e v ⟨rfl, rfl⟩
  go_wp2_with fail
  refine (turn_c b 5 hb (by decide) _ rfl _).mono ?_
  rintro e v ⟨rfl, rfl⟩
  go_wp2_with fail
  refine (turn_c b 6 hb (by decide) _ rfl _).mono ?_
  rintro e v ⟨rfl, rfl⟩
  go_wp2_with fail
  refine (turn_c b 7 hb (by decide) _ rfl _).mono ?_
  rintro e v ⟨rfl, rfl⟩
  go_wp2_with fail
  go_ret
  refine ⟨?_, rfl⟩
  have h4 := rt_lt hb 4
  have h5 := rt_lt hb 5
  have h6 := rt_lt hb 6
  have h7 := rt_lt hb 7
  show Ending.returned (Value.int .u8 (bits .xor .u8 (bits .xor .u8 (bits .xor .u8 (bits .xor .u8 (bits .xor .u8 (b : Int) (rt b 4 : Nat)) (rt b 5 : Nat)) (rt b 6 : Nat)) (rt b 7 : Nat)) ((99 : Nat) : Int))) = _
  rw [u8_xor_nat _ _ hb h4, u8_xor_nat _ _ (xor8 hb h4) h5, u8_xor_nat _ _ (xor8 (xor8 hb h4) h5) h6, u8_xor_nat _ _ (xor8 (xor8 (xor8 hb h4) h5) h6) h7, u8_xor_nat _ _ (xor8 (xor8 (xor8 (xor8 hb h4) h5) h6) h7) (by decide), HB.out]
  rfl
theorem sb_lt : ∀ a < 256, sb a < 256 := by decide +kernel
theorem usb_lt : ∀ a < 256, usb a < 256 := by decide +kernel
theorem usb_sb : ∀ a < 256, usb (sb a) = a := by decide +kernel
theorem sb_usb : ∀ a < 256, sb (usb a) = a := by decide +kernel

/-! ## powers -/
theorem gp_half {a : Nat} (ha : a < 256) (n : Nat) : gp a n = gm (if n % 2 = 1 then a else 1) (gp (gm a a) (n / 2)) := by
  have e1 : gm a a = gp a 2 := by
    rw [gp, gp, gp, gm_comm (a := 1) (by decide) ha, gm_one a ha]
  rw [e1, gp_mul ha]
  split
  · rename_i h
    have : n = 2 * (n / 2) + 1 := by omega
    conv => lhs; rw [this]
    rw [gp, gm_comm (gp_lt ha _) ha]
  · rename_i h
    rw [gm_comm (by decide) (gp_lt ha _), gm_one _ (gp_lt ha _)]
    congr 1
    omega
theorem ofInt_nat {n : Nat} (h : n < 18446744073709551616) : (BitVec.ofInt 64 (n : Int)).toNat = n := by
  rw [BitVec.toNat_ofInt]
  omega
theorem i64_and_nat (a b : Nat) (ha : a < 4611686018427387904) (hb : b < 4611686018427387904) : bits .and .i64 (a : Int) (b : Int) = ((a &&& b : Nat) : Int) := by
  show IntKind.i64.wrap ((BitVec.ofInt 64 (a : Int) &&& BitVec.ofInt 64 (b : Int)).toNat : Nat) = _
  rw [BitVec.toNat_and, ofInt_nat (by omega), ofInt_nat (by omega)]
  have : a &&& b ≤ a := Nat.and_le_left
  exact IntWalk.i64_in _ (by omega)
theorem i64_xor_nat (a b : Nat) (ha : a < 4611686018427387904) (hb : b < 4611686018427387904) : bits .xor .i64 (a : Int) (b : Int) = ((a ^^^ b : Nat) : Int) := by
  show IntKind.i64.wrap ((BitVec.ofInt 64 (a : Int) ^^^ BitVec.ofInt 64 (b : Int)).toNat : Nat) = _
  rw [BitVec.toNat_xor, ofInt_nat (by omega), ofInt_nat (by omega)]
  have : a ^^^ b < 2 ^ 62 := Nat.xor_lt_two_pow ha hb
  exact IntWalk.i64_in _ (by omega)
theorem i64_and1 (n : Nat) (h : n < 4611686018427387904) : bits .and .i64 (n : Int) 1 = ((n % 2 : Nat) : Int) := by
  rw [show (1 : Int) = ((1 : Nat) : Int) from rfl, i64_and_nat _ _ h (by decide), Nat.and_one_is_mod]
set_option maxRecDepth 100000 in
theorem power_c (a n : Nat) (ha : a < 256) (hn : n < 1048577) (w : World) : Calls Try.prog 35 #[.int .u8 a, .int .i64 n] w fun e w' => e = .returned (.int .u8 (gp a n : Nat)) ∧ w' = w := by
  have h0 : ¬ (n : Int) < 0 := by omega
  go_enter Try.func35, Try.ntmps35
  go_wp2_with fail
  go_loopw [0, 1, 5] (fun x y p wr => ∃ (x' y' p' : Nat), x = .int .u8 x' ∧ y = .int .i64 y' ∧ p = .int .u8 p' ∧ x' < 256 ∧ y' < 1048577 ∧ p' < 256 ∧ gm p' (gp x' y') = gp a n ∧ wr = w) (fun _ y _ _ => (intOf y).toNat)
  case atStart => exact ⟨a, n, 1, rfl, rfl, rfl, ha, hn, by decide, by rw [gm_comm (by decide) (gp_lt ha n), gm_one _ (gp_lt ha n)], rfl⟩
  case round =>
    obtain ⟨x', y', p', rfl, rfl, rfl, hx, hy, hp, hrel, rfl⟩ := hrel
    have HR := Lib.hid hrel
    clear hrel
    by_cases h0 : y' = 0
    · subst h0
      go_wp2_with fail
      go_ret
      have h := HR.out
      rw [gp, gm_one _ hp] at h
      exact ⟨by rw [← h]; rfl, rfl⟩
    · have h1 : (0 : Int) < (y' : Int) := by omega
      have q1 := i64_and1 y' (by omega)
      have hs := gp_half hx y'
      have HS := Lib.hid hs
      clear hs
      rcases (show y' % 2 = 0 ∨ y' % 2 = 1 by omega) with hm | hm
      · rw [hm] at q1
        go_wp2_with fail
        refine (product_c x' x' hx hx _).mono ?_
        rintro e v ⟨rfl, rfl⟩
        go_wp2_with fail
        have h := HS.out
        rw [hm, if_neg (by decide), gm_comm (by decide) (gp_lt (gm_lt hx hx) _), gm_one _ (gp_lt (gm_lt hx hx) _)] at h
        refine ⟨⟨gm x' x', y' / 2, p', rfl, by rw [Int.natCast_ediv]; rfl, rfl, gm_lt hx hx, by omega, hp, by rw [← h]; exact HR.out, trivial⟩, ?_⟩
        simp only [intOf]
        omega
      · rw [hm] at q1
        go_wp2_with fail
        refine (product_c x' p' hx hp _).mono ?_
        rintro e v ⟨rfl, rfl⟩
        go_wp2_with fail
        refine (product_c x' x' hx hx _).mono ?_
        rintro e v ⟨rfl, rfl⟩
        go_wp2_with fail
        have h := HS.out
        have hxx := gm_lt hx hx
        rw [hm, if_pos rfl] at h
        refine ⟨⟨gm x' x', y' / 2, gm x' p', rfl, by rw [Int.natCast_ediv]; rfl, rfl, hxx, by omega, gm_lt hx hp, ?_, trivial⟩, ?_⟩
        · rw [gm_comm hx hp, gm_assoc hp hx (gp_lt hxx _), ← h]
          exact HR.out
        · simp only [intOf]
          omega
end Go.Proofs.Ytdmfajcbbolfiaa
