/-
  The field of 256 elements in plain numbers: the product, its laws, inverses, powers.
  The package's products, inverses and substitutions of bytes.
  The package's substitutions, powers and sums of products.
  The package's sum of four products.
  AES-128 in plain numbers: rounds, round keys, encryption, decryption; they invert each other.
  Package aes: Xor, each, moved.
  Package aes: columns are mixed.
  Package aes: the next round key; all round keys.
  Package aes: all round keys of a key. Parts of arrays are read and written.
  Package aes: rounds, encryption, decryption.
  Package aes: a round is undone; encryption, decryption.
  '==' and '!=' of two arrays, whatever they hold; of two arrays of arrays that hold the same.
-/
import Derived.Test.YtagegigffohcbaaGreatDoorMA
import Derived.Laws.BitsAllLaws
import Derived.IntWalk
import Derived.Lib.Tables
set_option linter.unusedVariables false
set_option linter.unusedSimpArgs false
namespace Go.Proofs.YtagegigffohcbaaGreatDoor
open Go.RowKit

/-- x, if bit i of b is set -/
def pick (b i x : Nat) : Nat := if b.testBit i then x else 0
theorem pick_lin (b c i x : Nat) : pick (b ^^^ c) i x = pick b i x ^^^ pick c i x := by
  unfold pick
  rw [Nat.testBit_xor]
  cases b.testBit i <;> cases c.testBit i <;> simp
theorem pick_lin2 (b i x y : Nat) : pick b i (x ^^^ y) = pick b i x ^^^ pick b i y := by
  unfold pick
  split
  · rfl
  · simp
/-- the product of polynomials, the first n bits of b -/
def clm (a b : Nat) : Nat → Nat
  | 0 => 0
  | n + 1 => clm a b n ^^^ pick b n (a <<< n)
theorem xor4 (a b c d : Nat) : (a ^^^ b) ^^^ (c ^^^ d) = (a ^^^ c) ^^^ (b ^^^ d) := by
  rw [Nat.xor_assoc, ← Nat.xor_assoc b c d, Nat.xor_comm b c, Nat.xor_assoc c b d, ← Nat.xor_assoc]
theorem clm_lin (a b c n : Nat) : clm a (b ^^^ c) n = clm a b n ^^^ clm a c n := by
  induction n with
  | zero => simp [clm]
  | succ n ih => rw [clm, clm, clm, ih, pick_lin, xor4]
theorem clm_lin1 (a c b n : Nat) : clm (a ^^^ c) b n = clm a b n ^^^ clm c b n := by
  induction n with
  | zero => simp [clm]
  | succ n ih => rw [clm, clm, clm, ih, Nat.shiftLeft_xor_distrib, pick_lin2, xor4]
/-- bit 8 + n and the bits below are taken away -/
def red (p : Nat) : Nat → Nat
  | 0 => p
  | n + 1 => red (p ^^^ pick p (8 + n) (283 <<< n)) n
theorem red_lin (n : Nat) : ∀ p q : Nat, red (p ^^^ q) n = red p n ^^^ red q n := by
  induction n with
  | zero => intro p q; rfl
  | succ n ih =>
    intro p q
    rw [red, red, red, ← ih, pick_lin, xor4]
/-- the product -/
def gm (a b : Nat) : Nat := red (clm a b 8) 7
theorem gm_lin (a b c : Nat) : gm a (b ^^^ c) = gm a b ^^^ gm a c := by unfold gm; rw [clm_lin, red_lin]
theorem gm_lin1 (a c b : Nat) : gm (a ^^^ c) b = gm a b ^^^ gm c b := by unfold gm; rw [clm_lin1, red_lin]

/-! ## linear functions are told by eight values -/
theorem top_bit : ∀ k < 8, ∀ a < 256, 2 ^ k ≤ a → a < 2 ^ (k + 1) → 2 ^ k ^^^ (a - 2 ^ k) = a := by decide +kernel
theorem lin_ext {g h : Nat → Nat} (hg : ∀ x y, g (x ^^^ y) = g x ^^^ g y) (hh : ∀ x y, h (x ^^^ y) = h x ^^^ h y) (h8 : ∀ k < 8, g (2 ^ k) = h (2 ^ k)) : ∀ a < 256, g a = h a := by
  have g0 : ∀ {f : Nat → Nat}, (∀ x y, f (x ^^^ y) = f x ^^^ f y) → f 0 = 0 := fun {f} hf => by
    have := hf 0 0
    rw [Nat.xor_self, Nat.xor_self] at this
    exact this
  have key : ∀ k ≤ 8, ∀ a < 2 ^ k, g a = h a := by
    intro k
    induction k with
    | zero =>
      intro _ a ha
      have : a = 0 := by simpa using ha
      rw [this, g0 hg, g0 hh]
    | succ k ih =>
      intro hk a ha
      by_cases hlt : a < 2 ^ k
      · exact ih (by omega) a hlt
      · have h256 : a < 256 := Nat.lt_of_lt_of_le ha (Nat.pow_le_pow_right (n := 2) (by decide) (by omega : k + 1 ≤ 8))
        have ht := top_bit k (by omega) a h256 (by omega) ha
        have hlt2 : a - 2 ^ k < 2 ^ k := by rw [Nat.pow_succ] at ha; omega
        rw [← ht, hg, hh, h8 k (by omega), ih (by omega) _ hlt2]
  exact fun a ha => key 8 (Nat.le_refl _) a ha

/-! ## the laws of the product -/
theorem gm_lt8 : ∀ j < 8, ∀ k < 8, gm (2 ^ j) (2 ^ k) < 256 := by decide +kernel
theorem gm_comm8 : ∀ j < 8, ∀ k < 8, gm (2 ^ j) (2 ^ k) = gm (2 ^ k) (2 ^ j) := by decide +kernel
theorem gm_comm {a b : Nat} (ha : a < 256) (hb : b < 256) : gm a b = gm b a := by
  refine lin_ext (g := fun a => gm a b) (h := fun a => gm b a) (fun x y => gm_lin1 x y b) (fun x y => gm_lin b x y) (fun j hj => ?_) a ha
  exact lin_ext (g := fun b => gm (2 ^ j) b) (h := fun b => gm b (2 ^ j)) (fun x y => gm_lin _ x y) (fun x y => gm_lin1 x y _) (fun k hk => gm_comm8 j hj k hk) b hb
theorem pow2_lt : ∀ k < 8, 2 ^ k < 256 := by decide
theorem and_id : ∀ j < 8, ∀ k < 8, gm (2 ^ j) (2 ^ k) &&& 255 = gm (2 ^ j) (2 ^ k) := by decide +kernel
theorem gm_lt {a b : Nat} (ha : a < 256) (hb : b < 256) : gm a b < 256 := by
  have hlin : ∀ x y : Nat, (x ^^^ y) &&& 255 = (x &&& 255) ^^^ (y &&& 255) := fun x y => Nat.and_xor_distrib_right ..
  have h : gm a b &&& 255 = gm a b := by
    refine lin_ext (g := fun a => gm a b &&& 255) (h := fun a => gm a b) (fun x y => by rw [gm_lin1, hlin]) (fun x y => gm_lin1 x y b) (fun j hj => ?_) a ha
    exact lin_ext (g := fun b => gm (2 ^ j) b &&& 255) (h := fun b => gm (2 ^ j) b) (fun x y => by rw [gm_lin, hlin]) (fun x y => gm_lin _ x y) (fun k hk => and_id j hj k hk) b hb
  rw [← h]
  exact Nat.lt_of_le_of_lt Nat.and_le_right (by decide)
theorem gm_assoc8 : ∀ i < 8, ∀ j < 8, ∀ k < 8, gm (gm (2 ^ i) (2 ^ j)) (2 ^ k) = gm (2 ^ i) (gm (2 ^ j) (2 ^ k)) := by decide +kernel
theorem gm_assoc {a b c : Nat} (ha : a < 256) (hb : b < 256) (hc : c < 256) : gm (gm a b) c = gm a (gm b c) := by
  refine lin_ext (g := fun a => gm (gm a b) c) (h := fun a => gm a (gm b c)) (fun x y => by rw [gm_lin1, gm_lin1]) (fun x y => gm_lin1 x y _) (fun i hi => ?_) a ha
  refine lin_ext (g := fun b => gm (gm (2 ^ i) b) c) (h := fun b => gm (2 ^ i) (gm b c)) (fun x y => by rw [gm_lin, gm_lin1]) (fun x y => by rw [gm_lin1, gm_lin]) (fun j hj => ?_) b hb
  exact lin_ext (g := fun c => gm (gm (2 ^ i) (2 ^ j)) c) (h := fun c => gm (2 ^ i) (gm (2 ^ j) c)) (fun x y => gm_lin _ x y) (fun x y => by rw [gm_lin, gm_lin]) (fun k hk => gm_assoc8 i hi j hj k hk) c hc
theorem gm_one : ∀ a < 256, gm a 1 = a := by decide +kernel
theorem gm_zero : ∀ a < 256, gm a 0 = 0 := by decide +kernel

/-! ## inverses -/
/-- the power of a: n factors -/
def gp (a : Nat) : Nat → Nat
  | 0 => 1
  | n + 1 => gm (gp a n) a
theorem gp_lt {a : Nat} (ha : a < 256) (n : Nat) : gp a n < 256 := by
  induction n with
  | zero => rw [gp]; decide
  | succ n ih => rw [gp]; exact gm_lt ih ha
/-- squares, and the inverse as the power 254 -/
def sq (a : Nat) : Nat := gm a a
def gi (a : Nat) : Nat := sq (gm (sq (gm (sq (gm (sq (gm (sq (gm (sq (gm (sq a) a)) a)) a)) a)) a)) a)
theorem gi_lt : ∀ a < 256, gi a < 256 := by decide +kernel
theorem gi_mul : ∀ a < 256, a ≠ 0 → gm a (gi a) = 1 := by decide +kernel
theorem gi_zero : gi 0 = 0 := by decide +kernel
theorem gi_uniq {a b : Nat} (ha : a < 256) (hb : b < 256) (h : gm a b = 1) : b = gi a := by
  have ha0 : a ≠ 0 := by
    rintro rfl
    rw [gm_comm ha hb, gm_zero b hb] at h
    exact absurd h (by decide)
  have hi := gi_lt a ha
  have e1 : gm (gi a) (gm a b) = b := by
    rw [← gm_assoc hi ha hb, gm_comm hi ha, gi_mul a ha ha0, gm_comm (by decide) hb, gm_one b hb]
  rw [← e1, h, gm_one _ hi]
theorem gi_gi {a : Nat} (ha : a < 256) : gi (gi a) = a := by
  by_cases h0 : a = 0
  · subst h0; rw [gi_zero, gi_zero]
  · exact (gi_uniq (gi_lt a ha) ha (by rw [gm_comm (gi_lt a ha) ha]; exact gi_mul a ha h0)).symm
theorem gm_ne {a b : Nat} (ha : a < 256) (hb : b < 256) (h1 : a ≠ 0) (h2 : b ≠ 0) : gm a b ≠ 0 := by
  intro h
  have e : gm (gi a) (gm a b) = b := by
    rw [← gm_assoc (gi_lt a ha) ha hb, gm_comm (gi_lt a ha) ha, gi_mul a ha h1, gm_comm (by decide) hb, gm_one b hb]
  rw [h, gm_zero _ (gi_lt a ha)] at e
  exact h2 e.symm
theorem gi_gm {a b : Nat} (ha : a < 256) (hb : b < 256) : gi (gm a b) = gm (gi a) (gi b) := by
  have z : ∀ {x : Nat}, x < 256 → gm 0 x = 0 := fun {x} hx => by rw [gm_comm (by decide) hx, gm_zero x hx]
  by_cases h1 : a = 0
  · subst h1; rw [z hb, gi_zero, z (gi_lt b hb)]
  by_cases h2 : b = 0
  · subst h2; rw [gm_zero a ha, gi_zero, gm_zero _ (gi_lt a ha)]
  have ia := gi_lt a ha
  have ib := gi_lt b hb
  refine (gi_uniq (gm_lt ha hb) (gm_lt ia ib) ?_).symm
  rw [gm_assoc ha hb (gm_lt ia ib), ← gm_assoc hb ia ib, gm_comm hb ia, gm_assoc ia hb ib, gi_mul b hb h2, gm_one _ ia, gi_mul a ha h1]

/-! ## powers -/
theorem gp_add {a : Nat} (ha : a < 256) (m n : Nat) : gp a (m + n) = gm (gp a m) (gp a n) := by
  induction n with
  | zero => rw [Nat.add_zero, gp, gm_one _ (gp_lt ha m)]
  | succ n ih => rw [← Nat.add_assoc, gp, gp, ih, gm_assoc (gp_lt ha m) (gp_lt ha n) ha]
theorem gp_inv {a : Nat} (ha : a < 256) (n : Nat) : gp (gi a) n = gi (gp a n) := by
  induction n with
  | zero => rw [gp, gp]; decide +kernel
  | succ n ih => rw [gp, gp, ih, gi_gm (gp_lt ha n) ha]
theorem gp_mul {a : Nat} (ha : a < 256) (m n : Nat) : gp (gp a m) n = gp a (m * n) := by
  induction n with
  | zero => rw [gp, Nat.mul_zero, gp]
  | succ n ih => rw [gp, ih, Nat.mul_succ, gp_add ha]
theorem gp_255 : ∀ a < 256, a ≠ 0 → gp (gp (gp (gp a 3) 5) 17) 1 = 1 := by decide +kernel
theorem gp_order {a : Nat} (ha : a < 256) (h : a ≠ 0) : gp a 255 = 1 := by
  have e := gp_255 a ha h
  rw [gp_mul (gp_lt ha 3), gp_mul ha, gp_mul ha] at e
  exact e
end Go.Proofs.YtagegigffohcbaaGreatDoor

namespace Go.Proofs.YtagegigffohcbaaGreatDoor
open Go.RowKit

theorem db_ok : ∀ a < 256, a * 2 % 256 ^^^ a / 128 * 27 = gm 2 a := by decide +kernel
theorem gm_step8 : ∀ a < 256, ∀ k < 8, gm a (2 ^ k) = 2 ^ k * (a % 2) ^^^ gm (a / 2) (gm 2 (2 ^ k)) := by decide +kernel
theorem gm_step {a b : Nat} (ha : a < 256) (hb : b < 256) : gm a b = b * (a % 2) ^^^ gm (a / 2) (gm 2 b) := by
  refine lin_ext (g := fun b => gm a b) (h := fun b => b * (a % 2) ^^^ gm (a / 2) (gm 2 b)) (fun x y => gm_lin a x y) (fun x y => ?_) (fun k hk => gm_step8 a ha k hk) b hb
  simp only [gm_lin]
  rcases (show a % 2 = 0 ∨ a % 2 = 1 by omega) with h | h <;> rw [h]
  · simp
  · simp only [Nat.mul_one]
    exact xor4 _ _ _ _
theorem gm_zero1 : ∀ b < 256, gm 0 b = 0 := by decide +kernel
theorem xor8 {a b : Nat} (ha : a < 256) (hb : b < 256) : a ^^^ b < 256 := Nat.xor_lt_two_pow (n := 8) ha hb

set_option maxRecDepth 100000 in
theorem double_c (a : Nat) (ha : a < 256) (w : World) : Calls Tryz.prog 120 #[.int .u8 a] w fun e w' => e = .returned (.int .u8 (gm 2 a : Nat)) ∧ w' = w := by
  go_enter Tryz.func120, Tryz.ntmps120
  go_wp2_with fail
  go_ret
  refine ⟨?_, rfl⟩
  show Ending.returned (Value.int .u8 (bits .xor .u8 ((a : Int) * 2 % 256) ((a : Int) / 128 * 27))) = _
  rw [show ((a : Int) * 2 % 256) = ((a * 2 % 256 : Nat) : Int) by omega, show (a : Int) / 128 * 27 = ((a / 128 * 27 : Nat) : Int) by omega, u8_xor_nat _ _ (by omega) (by omega), db_ok a ha]

theorem u8_and1 (a : Nat) (ha : a < 256) : bits .and .u8 (a : Int) 1 = ((a % 2 : Nat) : Int) := by
  rw [show (1 : Int) = ((1 : Nat) : Int) from rfl, u8_and_nat _ _ ha (by decide), Nat.and_one_is_mod]
set_option maxRecDepth 100000 in
theorem product_c (a b : Nat) (ha : a < 256) (hb : b < 256) (w : World) : Calls Tryz.prog 115 #[.int .u8 a, .int .u8 b] w fun e w' => e = .returned (.int .u8 (gm a b : Nat)) ∧ w' = w := by
  go_enter Tryz.func115, Tryz.ntmps115
  go_wp2_with fail
  go_loopw [0, 1, 4] (fun x y p wr => ∃ (x' y' p' : Nat), x = .int .u8 x' ∧ y = .int .u8 y' ∧ p = .int .u8 p' ∧ x' < 256 ∧ y' < 256 ∧ p' < 256 ∧ p' ^^^ gm x' y' = gm a b ∧ wr = w) (fun x _ _ _ => (intOf x).toNat)
  case atStart => exact ⟨a, b, 0, rfl, rfl, rfl, ha, hb, by decide, by simp, rfl⟩
  case round =>
    obtain ⟨x', y', p', rfl, rfl, rfl, hx, hy, hp, hrel, rfl⟩ := hrel
    by_cases h0 : x' = 0
    · subst h0
      have HR := Lib.hid hrel
      clear hrel
      go_wp2_with fail
      go_ret
      have h := HR.out
      rw [gm_zero1 _ hy, Nat.xor_zero] at h
      exact ⟨by rw [← h]; rfl, rfl⟩
    · have HR := Lib.hid hrel
      clear hrel
      have h1 : (0 : Int) < (x' : Int) := by omega
      have q1 := u8_and1 x' hx
      go_wp2_with fail
      refine (double_c _ hy _).mono ?_
      rintro e v ⟨rfl, rfl⟩
      go_wp2_with fail
      go_roundw
      case rel =>
        have hm : y' * (x' % 2) < 256 := by rcases (show x' % 2 = 0 ∨ x' % 2 = 1 by omega) with h | h <;> rw [h] <;> omega
        refine ⟨x' / 2, gm 2 y', p' ^^^ y' * (x' % 2), by rw [Int.natCast_ediv]; rfl, rfl, ?_, by omega, gm_lt (by decide) hy, xor8 hp hm, ?_, trivial⟩
        · have e1 : (y' : Int) * ((x' : Int) % 2) % 256 = ((y' * (x' % 2) : Nat) : Int) := by
            rw [show ((x' : Int) % 2) = ((x' % 2 : Nat) : Int) by omega, ← Int.natCast_mul]
            omega
          rw [e1, u8_xor_nat _ _ hp hm]
        · rw [← HR.out, gm_step hx hy, Nat.xor_assoc]
      case measure => simp [intOf]; omega

/-! ## lengths of numbers -/
theorem wrap64_in {n : Int} (h : -9223372036854775808 ≤ n ∧ n ≤ 9223372036854775807) : wrap64 n = n := by unfold wrap64; omega
def ln (x : Nat) : Nat := if x = 0 then 0 else x.log2 + 1
theorem len8_ok : ∀ x < 256, Lib.len8 (x : Nat) = ((ln x : Nat) : Int) := by decide +kernel
theorem ln_le : ∀ x < 256, ln x ≤ 8 := by decide +kernel
theorem ln_hi : ∀ x < 512, 256 ≤ x → ln x = 8 + ln (x / 256) := by decide +kernel
set_option maxRecDepth 100000 in
theorem len64_c (x : Nat) (hx : x < 512) (w : World) : Calls Tryz.prog 123 #[.int .u64 x] w fun e w' => e = .returned (.int .i64 (ln x : Nat)) ∧ w' = w := by
  go_enter Tryz.func123, Tryz.ntmps123
  have h1 : ¬ (4294967296 : Int) ≤ (x : Int) := by omega
  have h2 : ¬ (65536 : Int) ≤ (x : Int) := by omega
  by_cases h3 : 256 ≤ x
  · have h3' : (256 : Int) ≤ (x : Int) := by omega
    have h4 : (x : Int) / 256 ≤ 255 := by omega
    have h5 : 0 ≤ (x : Int) / 256 := by omega
    have h6 : (x : Int) / 256 % 256 = (x : Int) / 256 := by omega
    have q : Lib.len8 ((x : Int) / 256) = ((ln (x / 256) : Nat) : Int) := len8_ok (x / 256) (by omega)
    have q2 := ln_le (x / 256) (by omega)
    go_wp2_with fail
    go_ret
    refine ⟨?_, rfl⟩
    rw [ln_hi x hx h3]
    rfl
  · have h3' : ¬ (256 : Int) ≤ (x : Int) := by omega
    have h4 : (x : Int) ≤ 255 := by omega
    have h6 : (x : Int) % 256 = (x : Int) := by omega
    have q := len8_ok x (by omega)
    have q2 := ln_le x (by omega)
    go_wp2_with fail
    go_ret
    exact ⟨rfl, rfl⟩
set_option maxRecDepth 100000 in
theorem len_c (x : Nat) (hx : x < 512) (w : World) : Calls Tryz.prog 119 #[.int .u64 x] w fun e w' => e = .returned (.int .i64 (ln x : Nat)) ∧ w' = w := by
  go_enter Tryz.func119, Tryz.ntmps119
  go_wp2_with fail
  refine (len64_c x hx _).mono ?_
  rintro e v ⟨rfl, rfl⟩
  go_wp2_with fail
  go_ret
  exact ⟨rfl, rfl⟩

/-! ## inverses -/
def eu : Nat → Nat → Nat → Nat → Nat → Option Nat
  | 0, _, _, _, _ => none
  | f + 1, u, v, g, h =>
    if u ≤ 1 then some g
    else if ln u < ln v then
      if v ^^^ u * 2 ^ (ln v - ln u) < v ∧ h ^^^ g * 2 ^ (ln v - ln u) < 512 then eu f (v ^^^ u * 2 ^ (ln v - ln u)) u (h ^^^ g * 2 ^ (ln v - ln u)) g else none
    else
      if u ^^^ v * 2 ^ (ln u - ln v) < u ∧ g ^^^ h * 2 ^ (ln u - ln v) < 512 then eu f (u ^^^ v * 2 ^ (ln u - ln v)) v (g ^^^ h * 2 ^ (ln u - ln v)) h else none
theorem eu_ok : ∀ a < 256, a ≠ 0 → eu 30 a 283 1 0 = some (gi a) := by decide +kernel
theorem ln_9 : ∀ x < 512, ln x ≤ 9 := by decide +kernel
theorem shl_ok {x n : Nat} (hx : x < 512) (hn : n ≤ 9) : x * 2 ^ n < 262144 := by
  have h := Nat.pow_le_pow_right (n := 2) (by decide) hn
  calc x * 2 ^ n ≤ x * 2 ^ 9 := Nat.mul_le_mul_left _ h
    _ < 262144 := by omega
theorem sh_int {n : Nat} (y x : Nat) (hy : y < 512) (hx : x < 512) (hn : n ≤ 9) (m : Int) (hm : m.toNat = n) : bits .xor .u64 (y : Int) (IntKind.u64.wrap ((x : Int) * 2 ^ m.toNat)) = ((y ^^^ x * 2 ^ n : Nat) : Int) := by
  have h := shl_ok hx hn
  rw [hm, show ((x : Int) * 2 ^ n) = ((x * 2 ^ n : Nat) : Int) by push_cast; rfl, IntWalk.u64_in _ (by omega), u64_xor_nat _ _ (by omega) (by omega)]
set_option maxRecDepth 100000 in
theorem inverse_c (a : Nat) (ha : a < 256) (w : World) : Calls Tryz.prog 114 #[.int .u8 a] w fun e w' => e = .returned (.int .u8 (gi a : Nat)) ∧ w' = w := by
  by_cases h0 : a = 0
  · subst h0
    go_enter Tryz.func114, Tryz.ntmps114
    go_wp2_with fail
    go_ret
    exact ⟨by rw [gi_zero]; rfl, rfl⟩
  · have he := eu_ok a ha h0
    have h1 := beq_f (show (a : Int) ≠ 0 by omega)
    go_enter Tryz.func114, Tryz.ntmps114
    go_wp2_with fail
    go_loopw [3, 4, 5, 6] (fun tu tv tg th wr => ∃ (u v g h f : Nat), tu = .int .u64 u ∧ tv = .int .u64 v ∧ tg = .int .u64 g ∧ th = .int .u64 h ∧ u < 512 ∧ v < 512 ∧ g < 512 ∧ h < 512 ∧ eu f u v g h = some (gi a) ∧ wr = w) (fun tu tv _ _ _ => (intOf tu).toNat + (intOf tv).toNat)
    case atStart => exact ⟨a, 283, 1, 0, 30, rfl, rfl, rfl, rfl, by omega, by decide, by decide, by decide, he, rfl⟩
    case round =>
      obtain ⟨u, v, g, h, f, rfl, rfl, rfl, rfl, hu, hv, hg, hh, hf, rfl⟩ := hrel
      rcases f with _ | f
      · rw [eu] at hf; cases hf
      · rw [eu] at hf
        by_cases hle : u ≤ 1
        · rw [if_pos hle] at hf
          have HF := Lib.hid hf
          clear hf
          have t1 : ¬ (1 : Int) < (u : Int) := by omega
          go_wp2_with fail
          go_ret
          have h := HF.out
          injection h with h
          have hb := gi_lt a ha
          refine ⟨?_, rfl⟩
          show Ending.returned (Value.int .u8 ((g : Int) % 256)) = _
          rw [← h] at hb ⊢
          rw [show (g : Int) % 256 = (g : Int) by omega]
        · rw [if_neg hle] at hf
          have t1 : (1 : Int) < (u : Int) := by omega
          have l1 := ln_9 u hu
          have l2 := ln_9 v hv
          have HF := Lib.hid hf
          clear hf
          go_wp2_with fail
          refine (len_c u hu _).mono ?_
          rintro e w1 ⟨rfl, rfl⟩
          go_wp2_with fail
          refine (len_c v hv _).mono ?_
          rintro e w1 ⟨rfl, rfl⟩
          obtain ⟨p, hp⟩ : ∃ p, p = ln u := ⟨_, rfl⟩
          obtain ⟨q, hq⟩ : ∃ q, q = ln v := ⟨_, rfl⟩
          rw [← hp, ← hq] at HF
          rw [← hp] at l1 ⊢
          rw [← hq] at l2 ⊢
          clear hp hq
          by_cases hlt : p < q
          · have hf := HF.out
            rw [if_pos hlt] at hf
            split at hf
            · rename_i hc
              obtain ⟨hc1, hc2⟩ := hc
              have HF := Lib.hid hf
              clear hf
              have t2 : (p : Int) - (q : Int) < 0 := by omega
              have t3 : wrap64 ((p : Int) - (q : Int)) = (p : Int) - (q : Int) := wrap64_in (by omega)
              go_wp2_with fail
              have e1 := sh_int (n := q - p) v u hv hu (by omega) (-((p : Int) - (q : Int))) (by omega)
              have e2 := sh_int (n := q - p) h g hh hg (by omega) (-((p : Int) - (q : Int))) (by omega)
              rw [e1, e2]
              exact ⟨⟨_, _, _, _, f, rfl, rfl, rfl, rfl, by omega, hu, hc2, hg, HF.out, trivial⟩, by simp only [intOf, Int.toNat_natCast]; omega⟩
            · cases hf
          · have hf := HF.out
            rw [if_neg hlt] at hf
            split at hf
            · rename_i hc
              obtain ⟨hc1, hc2⟩ := hc
              have HF := Lib.hid hf
              clear hf
              have t2 : ¬ (p : Int) - (q : Int) < 0 := by omega
              have t3 : wrap64 ((p : Int) - (q : Int)) = (p : Int) - (q : Int) := wrap64_in (by omega)
              go_wp2_with fail
              have e1 := sh_int (n := p - q) u v hu hv (by omega) ((p - q : Nat) : Int) (by omega)
              have e2 := sh_int (n := p - q) g h hg hh (by omega) ((p - q : Nat) : Int) (by omega)
              rw [Int.toNat_natCast] at e1 e2
              rw [e1, e2]
              exact ⟨⟨_, _, _, _, f, rfl, rfl, rfl, rfl, by omega, hv, hc2, hh, HF.out, trivial⟩, by simp only [intOf, Int.toNat_natCast]; omega⟩
            · cases hf

/-! ## substitutions -/
def rt (b n : Nat) : Nat := b * 2 ^ (8 - n) % 256 ||| b / 2 ^ n
theorem rt_lt {b : Nat} (hb : b < 256) (n : Nat) : rt b n < 256 := Nat.or_lt_two_pow (n := 8) (Nat.mod_lt _ (by decide)) (Nat.lt_of_le_of_lt (Nat.div_le_self _ _) hb)
end Go.Proofs.YtagegigffohcbaaGreatDoor

namespace Go.Proofs.YtagegigffohcbaaGreatDoor
open Go.RowKit

theorem rt_int (b n : Nat) (hb : b < 256) (x y : Int) (hx : x = (b * 2 ^ (8 - n) % 256 : Nat)) (hy : y = (b / 2 ^ n : Nat)) : bits .or .u8 x y = (rt b n : Nat) := by
  subst hx hy
  rw [u8_or_nat _ _ (Nat.mod_lt _ (by decide)) (Nat.lt_of_le_of_lt (Nat.div_le_self _ _) hb)]
  rfl
set_option maxRecDepth 100000 in
theorem rot_c (b n : Nat) (hb : b < 256) (hn : n = 2 ∨ n = 4 ∨ n = 5 ∨ n = 6 ∨ n = 7) (m : Int) (hm : m = -n) (w : World) : Calls Tryz.prog 121 #[.int .u8 b, .int .i64 m] w fun e w' => e = .returned (.int .u8 (rt b n : Nat)) ∧ w' = w := by
  subst hm
  rcases hn with rfl | rfl | rfl | rfl | rfl <;>
  · go_enter Tryz.func121, Tryz.ntmps121
    have q2 : bits .and .u64 (IntKind.u64.wrap (-2)) 7 = 6 := by decide +kernel
    have q4 : bits .and .u64 (IntKind.u64.wrap (-4)) 7 = 4 := by decide +kernel
    have q5 : bits .and .u64 (IntKind.u64.wrap (-5)) 7 = 3 := by decide +kernel
    have q6 : bits .and .u64 (IntKind.u64.wrap (-6)) 7 = 2 := by decide +kernel
    have q7 : bits .and .u64 (IntKind.u64.wrap (-7)) 7 = 1 := by decide +kernel
    go_wp2_with fail
    go_ret
    refine ⟨?_, rfl⟩
    exact congrArg (fun z => Ending.returned (Value.int .u8 z)) (rt_int b _ hb _ _ (by simp) (by simp))
set_option maxRecDepth 100000 in
theorem turn_c (b n : Nat) (hb : b < 256) (hn : n = 2 ∨ n = 4 ∨ n = 5 ∨ n = 6 ∨ n = 7) (m : Int) (hm : m = n) (w : World) : Calls Tryz.prog 116 #[.int .u8 b, .int .i64 m] w fun e w' => e = .returned (.int .u8 (rt b n : Nat)) ∧ w' = w := by
  subst hm
  rcases hn with rfl | rfl | rfl | rfl | rfl <;>
  · go_enter Tryz.func116, Tryz.ntmps116
    go_wp2_with fail
    refine (rot_c b _ hb (by decide) _ rfl _).mono ?_
    rintro e v ⟨rfl, rfl⟩
    go_wp2_with fail
    go_ret
    exact ⟨rfl, rfl⟩
def sb (a : Nat) : Nat := gi a ^^^ rt (gi a) 4 ^^^ rt (gi a) 5 ^^^ rt (gi a) 6 ^^^ rt (gi a) 7 ^^^ 99
def usb (a : Nat) : Nat := gi (rt a 2 ^^^ rt a 5 ^^^ rt a 7 ^^^ 5)
set_option maxRecDepth 100000 in
theorem sub_c (a : Nat) (ha : a < 256) (w : World) : Calls Tryz.prog 112 #[.int .u8 a] w fun e w' => e = .returned (.int .u8 (sb a : Nat)) ∧ w' = w := by
  have hb := gi_lt a ha
  obtain ⟨b, hbb⟩ : ∃ b, b = gi a := ⟨_, rfl⟩
  have HB := Lib.hid hbb
  rw [← hbb] at hb
  clear hbb
  go_enter Tryz.func112, Tryz.ntmps112
  go_wp2_with fail
  refine (inverse_c a ha _).mono ?_
  rintro e v ⟨rfl, rfl⟩
  rw [← HB.out]
  go_wp2_with fail
  refine (turn_c b 4 hb (by decide) _ rfl _).mono ?_
  rintro e v ⟨rfl, rfl⟩
  go_wp2_with fail
  refine (turn_c b 5 hb (by decide) _ rfl _).mono ?_
  rintro e v ⟨rfl, rfl⟩
  go_wp2_with fail
  refine (turn_c b 6 hb (by decide) _ rfl _).mono ?_
  rintro e v ⟨rfl, rfl⟩
  go_wp2_with fail
  refine (turn_c b 7 hb (by decide) _ rfl _).mono ?_
  rintro e v ⟨rfl, rfl⟩
  go_wp2_with fail
  go_ret
  refine ⟨?_, rfl⟩
  have h4 := rt_lt hb 4
  have h5 := rt_lt hb 5
  have h6 := rt_lt hb 6
  have h7 := rt_lt hb 7
  show Ending.returned (Value.int .u8 (bits .xor .u8 (bits .xor .u8 (bits .xor .u8 (bits .xor .u8 (bits .xor .u8 (b : Int) (rt b 4 : Nat)) (rt b 5 : Nat)) (rt b 6 : Nat)) (rt b 7 : Nat)) ((99 : Nat) : Int))) = _
  rw [u8_xor_nat _ _ hb h4, u8_xor_nat _ _ (xor8 hb h4) h5, u8_xor_nat _ _ (xor8 (xor8 hb h4) h5) h6, u8_xor_nat _ _ (xor8 (xor8 (xor8 hb h4) h5) h6) h7, u8_xor_nat _ _ (xor8 (xor8 (xor8 (xor8 hb h4) h5) h6) h7) (by decide), HB.out]
  rfl
theorem sb_lt : ∀ a < 256, sb a < 256 := by decide +kernel
theorem usb_lt : ∀ a < 256, usb a < 256 := by decide +kernel
theorem usb_sb : ∀ a < 256, usb (sb a) = a := by decide +kernel
theorem sb_usb : ∀ a < 256, sb (usb a) = a := by decide +kernel

/-! ## powers -/
theorem gp_half {a : Nat} (ha : a < 256) (n : Nat) : gp a n = gm (if n % 2 = 1 then a else 1) (gp (gm a a) (n / 2)) := by
  have e1 : gm a a = gp a 2 := by
    rw [gp, gp, gp, gm_comm (a := 1) (by decide) ha, gm_one a ha]
  rw [e1, gp_mul ha]
  split
  · rename_i h
    have : n = 2 * (n / 2) + 1 := by omega
    conv => lhs; rw [this]
    rw [gp, gm_comm (gp_lt ha _) ha]
  · rename_i h
    rw [gm_comm (by decide) (gp_lt ha _), gm_one _ (gp_lt ha _)]
    congr 1
    omega
theorem ofInt_nat {n : Nat} (h : n < 18446744073709551616) : (BitVec.ofInt 64 (n : Int)).toNat = n := by
  rw [BitVec.toNat_ofInt]
  omega
theorem i64_and_nat (a b : Nat) (ha : a < 4611686018427387904) (hb : b < 4611686018427387904) : bits .and .i64 (a : Int) (b : Int) = ((a &&& b : Nat) : Int) := by
  show IntKind.i64.wrap ((BitVec.ofInt 64 (a : Int) &&& BitVec.ofInt 64 (b : Int)).toNat : Nat) = _
  rw [BitVec.toNat_and, ofInt_nat (by omega), ofInt_nat (by omega)]
  have : a &&& b ≤ a := Nat.and_le_left
  exact IntWalk.i64_in _ (by omega)
theorem i64_xor_nat (a b : Nat) (ha : a < 4611686018427387904) (hb : b < 4611686018427387904) : bits .xor .i64 (a : Int) (b : Int) = ((a ^^^ b : Nat) : Int) := by
  show IntKind.i64.wrap ((BitVec.ofInt 64 (a : Int) ^^^ BitVec.ofInt 64 (b : Int)).toNat : Nat) = _
  rw [BitVec.toNat_xor, ofInt_nat (by omega), ofInt_nat (by omega)]
  have : a ^^^ b < 2 ^ 62 := Nat.xor_lt_two_pow ha hb
  exact IntWalk.i64_in _ (by omega)
theorem i64_and1 (n : Nat) (h : n < 4611686018427387904) : bits .and .i64 (n : Int) 1 = ((n % 2 : Nat) : Int) := by
  rw [show (1 : Int) = ((1 : Nat) : Int) from rfl, i64_and_nat _ _ h (by decide), Nat.and_one_is_mod]
set_option maxRecDepth 100000 in
theorem power_c (a n : Nat) (ha : a < 256) (hn : n < 1048577) (w : World) : Calls Tryz.prog 109 #[.int .u8 a, .int .i64 n] w fun e w' => e = .returned (.int .u8 (gp a n : Nat)) ∧ w' = w := by
  have h0 : ¬ (n : Int) < 0 := by omega
  go_enter Tryz.func109, Tryz.ntmps109
  go_wp2_with fail
  go_loopw [0, 1, 5] (fun x y p wr => ∃ (x' y' p' : Nat), x = .int .u8 x' ∧ y = .int .i64 y' ∧ p = .int .u8 p' ∧ x' < 256 ∧ y' < 1048577 ∧ p' < 256 ∧ gm p' (gp x' y') = gp a n ∧ wr = w) (fun _ y _ _ => (intOf y).toNat)
  case atStart => exact ⟨a, n, 1, rfl, rfl, rfl, ha, hn, by decide, by rw [gm_comm (by decide) (gp_lt ha n), gm_one _ (gp_lt ha n)], rfl⟩
  case round =>
    obtain ⟨x', y', p', rfl, rfl, rfl, hx, hy, hp, hrel, rfl⟩ := hrel
    have HR := Lib.hid hrel
    clear hrel
    by_cases h0 : y' = 0
    · subst h0
      go_wp2_with fail
      go_ret
      have h := HR.out
      rw [gp, gm_one _ hp] at h
      exact ⟨by rw [← h]; rfl, rfl⟩
    · have h1 : (0 : Int) < (y' : Int) := by omega
      have q1 := i64_and1 y' (by omega)
      have hs := gp_half hx y'
      have HS := Lib.hid hs
      clear hs
      rcases (show y' % 2 = 0 ∨ y' % 2 = 1 by omega) with hm | hm
      · rw [hm] at q1
        go_wp2_with fail
        refine (product_c x' x' hx hx _).mono ?_
        rintro e v ⟨rfl, rfl⟩
        go_wp2_with fail
        have h := HS.out
        rw [hm, if_neg (by decide), gm_comm (by decide) (gp_lt (gm_lt hx hx) _), gm_one _ (gp_lt (gm_lt hx hx) _)] at h
        refine ⟨⟨gm x' x', y' / 2, p', rfl, by rw [Int.natCast_ediv]; rfl, rfl, gm_lt hx hx, by omega, hp, by rw [← h]; exact HR.out, trivial⟩, ?_⟩
        simp only [intOf]
        omega
      · rw [hm] at q1
        go_wp2_with fail
        refine (product_c x' p' hx hp _).mono ?_
        rintro e v ⟨rfl, rfl⟩
        go_wp2_with fail
        refine (product_c x' x' hx hx _).mono ?_
        rintro e v ⟨rfl, rfl⟩
        go_wp2_with fail
        have h := HS.out
        have hxx := gm_lt hx hx
        rw [hm, if_pos rfl] at h
        refine ⟨⟨gm x' x', y' / 2, gm x' p', rfl, by rw [Int.natCast_ediv]; rfl, rfl, hxx, by omega, gm_lt hx hp, ?_, trivial⟩, ?_⟩
        · rw [gm_comm hx hp, gm_assoc hp hx (gp_lt hxx _), ← h]
          exact HR.out
        · simp only [intOf]
          omega
end Go.Proofs.YtagegigffohcbaaGreatDoor

namespace Go.Proofs.YtagegigffohcbaaGreatDoor
open Go.RowKit

/-- the sum of the first n products -/
def dot (f g : Nat → Nat) : Nat → Nat
  | 0 => 0
  | n + 1 => dot f g n ^^^ gm (f n) (g n)
theorem dot_lt {f g : Nat → Nat} (hf : ∀ i, i < 4 → f i < 256) (hg : ∀ i, i < 4 → g i < 256) (n : Nat) (hn : n ≤ 4) : dot f g n < 256 := by
  induction n with
  | zero => rw [dot]; decide
  | succ n ih => rw [dot]; exact xor8 (ih (by omega)) (gm_lt (hf n (by omega)) (hg n (by omega)))
theorem dot_congr {f g f' g' : Nat → Nat} (n : Nat) (hf : ∀ i, i < n → f i = f' i) (hg : ∀ i, i < n → g i = g' i) : dot f g n = dot f' g' n := by
  induction n with
  | zero => rfl
  | succ n ih => rw [dot, dot, ih (fun i hi => hf i (by omega)) (fun i hi => hg i (by omega)), hf n (by omega), hg n (by omega)]
set_option maxRecDepth 100000 in
theorem dot_c (f g : Nat → Nat) (hf : ∀ i, i < 4 → f i < 256) (hg : ∀ i, i < 4 → g i < 256) (w : World) :
    Calls Tryz.prog 118 #[.agg (tabV .u8 4 f), .agg (tabV .u8 4 g)] w fun e w' => e = .returned (.int .u8 (dot f g 4 : Nat)) ∧ Ext w w' := by
  have HF := Lib.hid hf
  have HG := Lib.hid hg
  clear hf hg
  go_enter Tryz.func118, Tryz.ntmps118
  go_wp2_with fail
  go_loopw [5, 7] (fun s i wr => ∃ n : Nat, n ≤ 4 ∧ s = .int .u8 (dot f g n : Nat) ∧ i = .int .i64 n ∧ Arr wr w.heap.size 134 .u8 4 f ∧ Arr wr (w.heap.size + 1) 134 .u8 4 g ∧ Ext w wr) (fun _ i _ => 4 - (intOf i).toNat)
  case atStart => 
    have h1 := Arr.new w 134 .u8 4 f
    have h2 := Arr.new (w.alloc (.cells (tabV .u8 4 f) 134)) 134 .u8 4 g
    rw [show (w.alloc (.cells (tabV .u8 4 f) 134)).heap.size = w.heap.size + 1 by simp] at h2
    exact ⟨0, by omega, rfl, rfl, h1.ext (Ext.alloc _ _), h2, (Ext.alloc _ _).tr (Ext.alloc _ _)⟩
  case round =>
    obtain ⟨n, hn, rfl, rfl, hA, hB, hx⟩ := hrel
    by_cases hlt : n < 4
    · have hd := dot_lt HF.out HG.out n hn
      have hfn := HF.out n hlt
      have hgn := HG.out n hlt
      obtain ⟨d, hdd⟩ : ∃ d, d = dot f g n := ⟨_, rfl⟩
      have HD := Lib.hid hdd
      rw [← hdd] at hd ⊢
      obtain ⟨wd, hwd⟩ : ∃ wd, wd = wr.drew := ⟨_, rfl⟩
      have hA' : Arr wd w.heap.size 134 .u8 4 f := by rw [hwd]; exact hA.ext (Ext.drew _)
      have hB' : Arr wd (w.heap.size + 1) 134 .u8 4 g := by rw [hwd]; exact hB.ext (Ext.drew _)
      have hx' : Ext w wd := by rw [hwd]; exact hx.tr (Ext.drew _)
      have c1 := hA'.cell hlt
      have c2 := hB'.cell hlt
      have HA := Lib.hid hA'
      have HB := Lib.hid hB'
      have HX := Lib.hid hx'
      have i1 : (n : Int) < 4 := by omega
      have HWD := Lib.hid hwd
      clear hA hB hx hA' hB' hx' hdd hwd
      go_wp2_with fail
      refine wp_region_ord 9 (fun W => W = wd) (by kernel_rfl) (by kernel_rfl) (by decide) (by kernel_rfl) HWD.out.symm ?_
      simp only [List.take_succ_cons, List.take_zero, List.drop_succ_cons, List.drop_zero]
      repeat (refine wpTxt_stay ?_ (fun K hK => ?_) rfl ?_; rotate_left; (simp only [Act.put, List.setIfInBounds_toArray, List.set_cons_zero, List.set_cons_succ] at hK; go_simp; exact hK); simp only [Act.put, List.setIfInBounds_toArray, List.set_cons_zero, List.set_cons_succ])
      refine wpTxt_stay ?_ (fun K hK => ?_) rfl ?_
      rotate_left
      · simp only [Act.put, List.setIfInBounds_toArray, List.set_cons_zero, List.set_cons_succ] at hK
        go_simp
        refine (product_c _ _ hfn hgn _).mono ?_
        rintro e v ⟨rfl, rfl⟩
        exact hK
      simp only [Act.put, List.setIfInBounds_toArray, List.set_cons_zero, List.set_cons_succ]
      repeat (refine wpTxt_stay ?_ (fun K hK => ?_) rfl ?_; rotate_left; (simp only [Act.put, List.setIfInBounds_toArray, List.set_cons_zero, List.set_cons_succ] at hK; go_simp; exact hK); simp only [Act.put, List.setIfInBounds_toArray, List.set_cons_zero, List.set_cons_succ])
      refine wpTxt_nil ?_
      rintro W rfl
      go_wp2_with fail
      refine ⟨⟨n + 1, by omega, ?_, rfl, HA.out, HB.out, HX.out⟩, ?_⟩
      · rw [dot, ← HD.out, u8_xor_nat _ _ hd (gm_lt hfn hgn)]
      · simp only [intOf]
        omega
    · have e4 : n = 4 := by omega
      subst e4
      have HX := Lib.hid hx
      clear hA hB hx
      go_wp2_with fail
      go_ret
      exact ⟨rfl, HX.out⟩
end Go.Proofs.YtagegigffohcbaaGreatDoor

namespace Go.Proofs.YtagegigffohcbaaGreatDoor
open Go.RowKit
set_option linter.unusedVariables false
set_option linter.unusedSimpArgs false

abbrev Bk := Nat → Nat
/-- the same block -/
def Same (f g : Bk) : Prop := ∀ i, i < 16 → f i = g i
/-- bytes -/
def Byt (f : Bk) : Prop := ∀ i, i < 16 → f i < 256
theorem Same.refl (f : Bk) : Same f f := fun _ _ => rfl
theorem Same.symm {f g : Bk} (h : Same f g) : Same g f := fun i hi => (h i hi).symm
theorem Same.trans {f g k : Bk} (h : Same f g) (h' : Same g k) : Same f k := fun i hi => (h i hi).trans (h' i hi)
def xo (f g : Bk) : Bk := fun i => f i ^^^ g i
def ea (h : Nat → Nat) (f : Bk) : Bk := fun i => h (f i)
def mv (n : Nat) (f : Bk) : Bk := fun i => f (i % 4 + 4 * ((i / 4 + n * (i % 4)) % 4))
def mx (by_ : Nat → Nat) (f : Bk) : Bk := fun i => dot by_ (fun k => f (4 * (i / 4) + (i % 4 + k) % 4)) 4
def b1 : Nat → Nat := q4 2 3 1 1
def b2 : Nat → Nat := q4 14 11 13 9
theorem b1_lt : ∀ i, i < 4 → b1 i < 256 := by decide
theorem b2_lt : ∀ i, i < 4 → b2 i < 256 := by decide
def rnd (f k : Bk) (last : Bool) : Bk := xo (if last then mv 1 (ea sb f) else mx b1 (mv 1 (ea sb f))) k
def urnd (f k : Bk) (last : Bool) : Bk := ea usb (mv 3 (if last then xo f k else mx b2 (xo f k)))
theorem mv_at {i : Nat} (n : Nat) (h : i < 16) : i % 4 + 4 * ((i / 4 + n * (i % 4)) % 4) < 16 := by omega
theorem mx_at {i : Nat} (k : Nat) (h : i < 16) : 4 * (i / 4) + (i % 4 + k) % 4 < 16 := by omega

theorem xo_same {f f' g g' : Bk} (h : Same f f') (h' : Same g g') : Same (xo f g) (xo f' g') := fun i hi => by unfold xo; rw [h i hi, h' i hi]
theorem ea_same {f f' : Bk} (t : Nat → Nat) (h : Same f f') : Same (ea t f) (ea t f') := fun i hi => by unfold ea; rw [h i hi]
theorem mv_same {f f' : Bk} (n : Nat) (h : Same f f') : Same (mv n f) (mv n f') := fun i hi => h _ (mv_at n hi)
theorem mx_same {f f' : Bk} (b : Nat → Nat) (h : Same f f') : Same (mx b f) (mx b f') := fun i hi => dot_congr 4 (fun _ _ => rfl) (fun k _ => h _ (mx_at k hi))
theorem rnd_same {f f' k k' : Bk} (l : Bool) (h : Same f f') (h' : Same k k') : Same (rnd f k l) (rnd f' k' l) := by
  unfold rnd
  refine xo_same ?_ h'
  split
  · exact mv_same 1 (ea_same sb h)
  · exact mx_same _ (mv_same 1 (ea_same sb h))
theorem urnd_same {f f' k k' : Bk} (l : Bool) (h : Same f f') (h' : Same k k') : Same (urnd f k l) (urnd f' k' l) := by
  unfold urnd
  refine ea_same _ (mv_same _ ?_)
  split
  · exact xo_same h h'
  · exact mx_same _ (xo_same h h')
theorem xo_byt {f g : Bk} (h : Byt f) (h' : Byt g) : Byt (xo f g) := fun i hi => xor8 (h i hi) (h' i hi)
theorem ea_sb {f : Bk} (h : Byt f) : Byt (ea sb f) := fun i hi => sb_lt _ (h i hi)
theorem ea_usb {f : Bk} (h : Byt f) : Byt (ea usb f) := fun i hi => usb_lt _ (h i hi)
theorem mv_byt {f : Bk} (n : Nat) (h : Byt f) : Byt (mv n f) := fun i hi => h _ (mv_at n hi)
theorem mx_byt {f : Bk} {b : Nat → Nat} (hb : ∀ i, i < 4 → b i < 256) (h : Byt f) : Byt (mx b f) := fun i hi => dot_lt hb (fun k _ => h _ (mx_at k hi)) 4 (Nat.le_refl _)
theorem rnd_byt {f k : Bk} (l : Bool) (h : Byt f) (h' : Byt k) : Byt (rnd f k l) := by
  unfold rnd
  refine xo_byt ?_ h'
  split
  · exact mv_byt 1 (ea_sb h)
  · exact mx_byt b1_lt (mv_byt 1 (ea_sb h))
theorem urnd_byt {f k : Bk} (l : Bool) (h : Byt f) (h' : Byt k) : Byt (urnd f k l) := by
  unfold urnd
  refine ea_usb (mv_byt _ ?_)
  split
  · exact xo_byt h h'
  · exact mx_byt b2_lt (xo_byt h h')

/-! ## what a round does is undone -/
theorem xo_xo (f k : Bk) : Same (xo (xo f k) k) f := fun i _ => by unfold xo; rw [Nat.xor_assoc, Nat.xor_self, Nat.xor_zero]
theorem mv31 (f : Bk) : Same (mv 3 (mv 1 f)) f := fun i hi => by
  unfold mv
  congr 1
  omega
theorem mv13 (f : Bk) : Same (mv 1 (mv 3 f)) f := fun i hi => by
  unfold mv
  congr 1
  omega
theorem ea_mv (t : Nat → Nat) (n : Nat) (f : Bk) : ea t (mv n f) = mv n (ea t f) := rfl
theorem usb_ea {f : Bk} (h : Byt f) : Same (ea usb (ea sb f)) f := fun i hi => usb_sb _ (h i hi)
theorem sb_ea {f : Bk} (h : Byt f) : Same (ea sb (ea usb f)) f := fun i hi => sb_usb _ (h i hi)

theorem mix_a : ∀ x < 256, gm 14 (gm 2 x) ^^^ (gm 11 (gm 1 x) ^^^ (gm 13 (gm 1 x) ^^^ gm 9 (gm 3 x))) = x := by decide +kernel
theorem mix_b : ∀ x < 256, gm 14 (gm 3 x) ^^^ (gm 11 (gm 2 x) ^^^ (gm 13 (gm 1 x) ^^^ gm 9 (gm 1 x))) = 0 := by decide +kernel
theorem mix_c : ∀ x < 256, gm 14 (gm 1 x) ^^^ (gm 11 (gm 3 x) ^^^ (gm 13 (gm 2 x) ^^^ gm 9 (gm 1 x))) = 0 := by decide +kernel
theorem mix_d : ∀ x < 256, gm 14 (gm 1 x) ^^^ (gm 11 (gm 1 x) ^^^ (gm 13 (gm 3 x) ^^^ gm 9 (gm 2 x))) = 0 := by decide +kernel
theorem nix_a : ∀ x < 256, gm 2 (gm 14 x) ^^^ (gm 3 (gm 9 x) ^^^ (gm 1 (gm 13 x) ^^^ gm 1 (gm 11 x))) = x := by decide +kernel
theorem nix_b : ∀ x < 256, gm 2 (gm 11 x) ^^^ (gm 3 (gm 14 x) ^^^ (gm 1 (gm 9 x) ^^^ gm 1 (gm 13 x))) = 0 := by decide +kernel
theorem nix_c : ∀ x < 256, gm 2 (gm 13 x) ^^^ (gm 3 (gm 11 x) ^^^ (gm 1 (gm 14 x) ^^^ gm 1 (gm 9 x))) = 0 := by decide +kernel
theorem nix_d : ∀ x < 256, gm 2 (gm 9 x) ^^^ (gm 3 (gm 13 x) ^^^ (gm 1 (gm 11 x) ^^^ gm 1 (gm 14 x))) = 0 := by decide +kernel
def m4 (p q r s a b c d : Nat) : Nat := gm p a ^^^ (gm q b ^^^ (gm r c ^^^ gm s d))
theorem dot4 (f g : Nat → Nat) : dot f g 4 = m4 (f 0) (f 1) (f 2) (f 3) (g 0) (g 1) (g 2) (g 3) := by
  simp only [dot, m4, Nat.zero_xor, Nat.xor_assoc]
theorem xor16 {a p1 p2 p3 p4 q1 q2 q3 q4 r1 r2 r3 r4 s1 s2 s3 s4 : Nat} (ha : p1 ^^^ (q1 ^^^ (r1 ^^^ s1)) = a) (hb : p2 ^^^ (q2 ^^^ (r2 ^^^ s2)) = 0) (hc : p3 ^^^ (q3 ^^^ (r3 ^^^ s3)) = 0) (hd : p4 ^^^ (q4 ^^^ (r4 ^^^ s4)) = 0) :
    (p1 ^^^ (p2 ^^^ (p3 ^^^ p4))) ^^^ ((q1 ^^^ (q2 ^^^ (q3 ^^^ q4))) ^^^ ((r1 ^^^ (r2 ^^^ (r3 ^^^ r4))) ^^^ (s1 ^^^ (s2 ^^^ (s3 ^^^ s4))))) = a := by
  calc _ = (p1 ^^^ (q1 ^^^ (r1 ^^^ s1))) ^^^ ((p2 ^^^ (q2 ^^^ (r2 ^^^ s2))) ^^^ ((p3 ^^^ (q3 ^^^ (r3 ^^^ s3))) ^^^ (p4 ^^^ (q4 ^^^ (r4 ^^^ s4))))) := by ac_rfl
    _ = a := by rw [ha, hb, hc, hd]; simp
theorem mix_mix {a b c d : Nat} (ha : a < 256) (hb : b < 256) (hc : c < 256) (hd : d < 256) :
    m4 14 11 13 9 (m4 2 3 1 1 a b c d) (m4 2 3 1 1 b c d a) (m4 2 3 1 1 c d a b) (m4 2 3 1 1 d a b c) = a := by
  simp only [m4, gm_lin]
  have e : (gm 14 (gm 2 a) ^^^ (gm 14 (gm 3 b) ^^^ (gm 14 (gm 1 c) ^^^ gm 14 (gm 1 d)))) ^^^ ((gm 11 (gm 1 a) ^^^ (gm 11 (gm 2 b) ^^^ (gm 11 (gm 3 c) ^^^ gm 11 (gm 1 d)))) ^^^ ((gm 13 (gm 1 a) ^^^ (gm 13 (gm 1 b) ^^^ (gm 13 (gm 2 c) ^^^ gm 13 (gm 3 d)))) ^^^
      (gm 9 (gm 3 a) ^^^ (gm 9 (gm 1 b) ^^^ (gm 9 (gm 1 c) ^^^ gm 9 (gm 2 d)))))) = a := xor16 (mix_a a ha) (mix_b b hb) (mix_c c hc) (mix_d d hd)
  refine Eq.trans ?_ e
  ac_rfl
theorem nix_nix {a b c d : Nat} (ha : a < 256) (hb : b < 256) (hc : c < 256) (hd : d < 256) :
    m4 2 3 1 1 (m4 14 11 13 9 a b c d) (m4 14 11 13 9 b c d a) (m4 14 11 13 9 c d a b) (m4 14 11 13 9 d a b c) = a := by
  simp only [m4, gm_lin]
  have e : (gm 2 (gm 14 a) ^^^ (gm 2 (gm 11 b) ^^^ (gm 2 (gm 13 c) ^^^ gm 2 (gm 9 d)))) ^^^ ((gm 3 (gm 9 a) ^^^ (gm 3 (gm 14 b) ^^^ (gm 3 (gm 11 c) ^^^ gm 3 (gm 13 d)))) ^^^ ((gm 1 (gm 13 a) ^^^ (gm 1 (gm 9 b) ^^^ (gm 1 (gm 14 c) ^^^ gm 1 (gm 11 d)))) ^^^
      (gm 1 (gm 11 a) ^^^ (gm 1 (gm 13 b) ^^^ (gm 1 (gm 9 c) ^^^ gm 1 (gm 14 d)))))) = a := xor16 (nix_a a ha) (nix_b b hb) (nix_c c hc) (nix_d d hd)
  refine Eq.trans ?_ e
  ac_rfl
/-- a column, from row r on -/
theorem mx_m4 (b : Nat → Nat) (f : Bk) {c r : Nat} (hr : r < 4) : mx b f (4 * c + r) = m4 (b 0) (b 1) (b 2) (b 3) (f (4 * c + r)) (f (4 * c + (r + 1) % 4)) (f (4 * c + (r + 2) % 4)) (f (4 * c + (r + 3) % 4)) := by
  unfold mx
  rw [dot4, show (4 * c + r) / 4 = c by omega, show (4 * c + r) % 4 = r by omega, show (r + 0) % 4 = r by omega]
theorem mx21 {f : Bk} (h : Byt f) : Same (mx b2 (mx b1 f)) f := fun i hi => by
  obtain ⟨c, r, hr, hc, rfl⟩ : ∃ c r, r < 4 ∧ c < 4 ∧ i = 4 * c + r := ⟨i / 4, i % 4, by omega, by omega, by omega⟩
  have h0 := h (4 * c + r) (by omega)
  have h1 := h (4 * c + (r + 1) % 4) (by omega)
  have h2 := h (4 * c + (r + 2) % 4) (by omega)
  have h3 := h (4 * c + (r + 3) % 4) (by omega)
  rw [mx_m4 b2 _ hr, mx_m4 b1 _ hr, mx_m4 b1 _ (by omega), mx_m4 b1 _ (by omega), mx_m4 b1 _ (by omega)]
  rw [show ((r + 1) % 4 + 1) % 4 = (r + 2) % 4 by omega, show ((r + 1) % 4 + 2) % 4 = (r + 3) % 4 by omega, show ((r + 1) % 4 + 3) % 4 = r by omega, show ((r + 2) % 4 + 1) % 4 = (r + 3) % 4 by omega, show ((r + 2) % 4 + 2) % 4 = r by omega,
    show ((r + 2) % 4 + 3) % 4 = (r + 1) % 4 by omega, show ((r + 3) % 4 + 1) % 4 = r by omega, show ((r + 3) % 4 + 2) % 4 = (r + 1) % 4 by omega, show ((r + 3) % 4 + 3) % 4 = (r + 2) % 4 by omega]
  exact mix_mix h0 h1 h2 h3
theorem mx12 {f : Bk} (h : Byt f) : Same (mx b1 (mx b2 f)) f := fun i hi => by
  obtain ⟨c, r, hr, hc, rfl⟩ : ∃ c r, r < 4 ∧ c < 4 ∧ i = 4 * c + r := ⟨i / 4, i % 4, by omega, by omega, by omega⟩
  have h0 := h (4 * c + r) (by omega)
  have h1 := h (4 * c + (r + 1) % 4) (by omega)
  have h2 := h (4 * c + (r + 2) % 4) (by omega)
  have h3 := h (4 * c + (r + 3) % 4) (by omega)
  rw [mx_m4 b1 _ hr, mx_m4 b2 _ hr, mx_m4 b2 _ (by omega), mx_m4 b2 _ (by omega), mx_m4 b2 _ (by omega)]
  rw [show ((r + 1) % 4 + 1) % 4 = (r + 2) % 4 by omega, show ((r + 1) % 4 + 2) % 4 = (r + 3) % 4 by omega, show ((r + 1) % 4 + 3) % 4 = r by omega, show ((r + 2) % 4 + 1) % 4 = (r + 3) % 4 by omega, show ((r + 2) % 4 + 2) % 4 = r by omega,
    show ((r + 2) % 4 + 3) % 4 = (r + 1) % 4 by omega, show ((r + 3) % 4 + 1) % 4 = r by omega, show ((r + 3) % 4 + 2) % 4 = (r + 1) % 4 by omega, show ((r + 3) % 4 + 3) % 4 = (r + 2) % 4 by omega]
  exact nix_nix h0 h1 h2 h3
theorem urnd_rnd {f k : Bk} (l : Bool) (hf : Byt f) : Same (urnd (rnd f k l) k l) f := by
  unfold urnd rnd
  have key : Same (ea usb (mv 3 (mv 1 (ea sb f)))) f := (ea_same usb (mv31 _)).trans (usb_ea hf)
  cases l with
  | true => exact (ea_same usb (mv_same 3 (xo_xo _ k))).trans key
  | false => exact (ea_same usb (mv_same 3 ((mx_same b2 (xo_xo _ k)).trans (mx21 (mv_byt 1 (ea_sb hf)))))).trans key
theorem rnd_urnd {f k : Bk} (l : Bool) (hf : Byt f) (hk : Byt k) : Same (rnd (urnd f k l) k l) f := by
  unfold urnd rnd
  have key : ∀ g, Byt g → Same (mv 1 (ea sb (ea usb (mv 3 g)))) g := fun g hg => (mv_same 1 (sb_ea (mv_byt 3 hg))).trans (mv13 _)
  cases l with
  | true => exact (xo_same (key _ (xo_byt hf hk)) (Same.refl k)).trans (xo_xo _ k)
  | false => exact (xo_same ((mx_same b1 (key _ (mx_byt b2_lt (xo_byt hf hk)))).trans (mx12 (xo_byt hf hk))) (Same.refl k)).trans (xo_xo _ k)

/-! ## round keys -/
/-- row r, the columns of the key after f -/
def nxc (f : Bk) (c r : Nat) : Nat → Nat
  | 0 => (f r ^^^ sb (f (12 + (r + 1) % 4))) ^^^ (if r = 0 then c else 0)
  | k + 1 => f (4 * (k + 1) + r) ^^^ nxc f c r k
def nx (f : Bk) (c : Nat) : Bk := fun i => nxc f c (i % 4) (i / 4)
def kys (f : Bk) : Nat → Bk
  | 0 => f
  | n + 1 => nx (kys f n) (gp 2 n)
theorem nxc_lt {f : Bk} (h : Byt f) {c : Nat} (hc : c < 256) {r : Nat} (hr : r < 4) (k : Nat) (hk : k < 4) : nxc f c r k < 256 := by
  induction k with
  | zero =>
    rw [nxc]
    refine xor8 (xor8 (h _ (by omega)) (sb_lt _ (h _ (by omega)))) ?_
    split <;> omega
  | succ k ih => rw [nxc]; exact xor8 (h _ (by omega)) (ih (by omega))
theorem nx_byt {f : Bk} (h : Byt f) {c : Nat} (hc : c < 256) : Byt (nx f c) := fun i hi => nxc_lt h hc (by omega) _ (by omega)
theorem nxc_same {f g : Bk} (h : Same f g) (c : Nat) {r : Nat} (hr : r < 4) (k : Nat) (hk : k < 4) : nxc f c r k = nxc g c r k := by
  induction k with
  | zero => rw [nxc, nxc, h _ (by omega), h _ (by omega)]
  | succ k ih => rw [nxc, nxc, ih (by omega), h _ (by omega)]
theorem nx_same {f g : Bk} (h : Same f g) (c : Nat) : Same (nx f c) (nx g c) := fun i hi => nxc_same h c (by omega) _ (by omega)
theorem kys_byt {f : Bk} (h : Byt f) (n : Nat) : Byt (kys f n) := by
  induction n with
  | zero => exact h
  | succ n ih => exact nx_byt ih (gp_lt (by decide) n)
theorem kys_same {f g : Bk} (h : Same f g) (n : Nat) : Same (kys f n) (kys g n) := by
  induction n with
  | zero => exact h
  | succ n ih => exact nx_same ih _

/-! ## encryption -/
def est (k b : Bk) : Nat → Bk
  | 0 => xo b (kys k 0)
  | n + 1 => rnd (est k b n) (kys k (n + 1)) (n + 1 == 10)
def enc (k b : Bk) : Bk := est k b 10
def dst_ (k b : Bk) : Nat → Bk
  | 0 => b
  | m + 1 => urnd (dst_ k b m) (kys k (10 - m)) (10 - m == 10)
def dec (k b : Bk) : Bk := xo (dst_ k b 10) (kys k 0)
theorem est_byt {k b : Bk} (hk : Byt k) (hb : Byt b) (n : Nat) : Byt (est k b n) := by
  induction n with
  | zero => exact xo_byt hb hk
  | succ n ih => exact rnd_byt _ ih (kys_byt hk _)
theorem enc_byt {k b : Bk} (hk : Byt k) (hb : Byt b) : Byt (enc k b) := est_byt hk hb 10
theorem dst_byt {k b : Bk} (hk : Byt k) (hb : Byt b) (n : Nat) : Byt (dst_ k b n) := by
  induction n with
  | zero => exact hb
  | succ n ih => exact urnd_byt _ ih (kys_byt hk _)
theorem dec_byt {k b : Bk} (hk : Byt k) (hb : Byt b) : Byt (dec k b) := xo_byt (dst_byt hk hb 10) hk
theorem est_same {k k' b b' : Bk} (h : Same k k') (h' : Same b b') (n : Nat) : Same (est k b n) (est k' b' n) := by
  induction n with
  | zero => exact xo_same h' h
  | succ n ih => exact rnd_same _ ih (kys_same h _)
theorem dst_same {k k' b b' : Bk} (h : Same k k') (h' : Same b b') (n : Nat) : Same (dst_ k b n) (dst_ k' b' n) := by
  induction n with
  | zero => exact h'
  | succ n ih => exact urnd_same _ ih (kys_same h _)
theorem enc_same {k k' b b' : Bk} (h : Same k k') (h' : Same b b') : Same (enc k b) (enc k' b') := est_same h h' 10
theorem dec_same {k k' b b' : Bk} (h : Same k k') (h' : Same b b') : Same (dec k b) (dec k' b') := xo_same (dst_same h h' 10) (kys_same h 0)
theorem dec_enc {k b : Bk} (hk : Byt k) (hb : Byt b) : Same (dec k (enc k b)) b := by
  have key : ∀ m ≤ 10, Same (dst_ k (enc k b) m) (est k b (10 - m)) := by
    intro m
    induction m with
    | zero => intro _; exact Same.refl _
    | succ m ih =>
      intro hm
      obtain ⟨j, hj⟩ : ∃ j, 10 - m = j + 1 := ⟨9 - m, by omega⟩
      have h1 := ih (by omega)
      rw [hj] at h1
      rw [show 10 - (m + 1) = j by omega, dst_, hj]
      exact (urnd_same _ h1 (Same.refl _)).trans (urnd_rnd _ (est_byt hk hb j))
  exact (xo_same (key 10 (Nat.le_refl _)) (Same.refl _)).trans (xo_xo b k)
theorem enc_dec {k b : Bk} (hk : Byt k) (hb : Byt b) : Same (enc k (dec k b)) b := by
  have key : ∀ n ≤ 10, Same (est k (dec k b) n) (dst_ k b (10 - n)) := by
    intro n
    induction n with
    | zero => intro _; exact xo_xo _ k
    | succ n ih =>
      intro hn
      obtain ⟨m, hm⟩ : ∃ m, 10 - n = m + 1 := ⟨9 - n, by omega⟩
      have h1 := ih (by omega)
      rw [hm] at h1
      rw [show 10 - (n + 1) = m by omega, est]
      have e : 10 - m = n + 1 := by omega
      rw [dst_, e] at h1
      exact (rnd_same _ h1 (Same.refl _)).trans (rnd_urnd _ (dst_byt hk hb m) (kys_byt hk _))
  exact key 10 (Nat.le_refl _)
end Go.Proofs.YtagegigffohcbaaGreatDoor

namespace Go.Proofs.YtagegigffohcbaaGreatDoor
open Go.RowKit

theorem size_bk : (Tryz.prog.info? 22).map (·.size) = some 16 := by kernel_rfl
theorem noGuard_bk : Tryz.prog.eqGuardType Tryz.prog.depth 22 = false := by kernel_rfl
def bkv (f : Bk) : Value := .agg (tabV .u8 16 f)
theorem bkv_same {f g : Bk} (h : Same f g) : bkv f = bkv g := by unfold bkv; rw [tabV_congr h]

set_option maxRecDepth 100000 in
set_option maxHeartbeats 1000000 in
theorem xor_c (f g : Bk) (hf : Byt f) (hg : Byt g) (w : World) :
    Calls Tryz.prog 106 #[.agg (tabV .u8 16 f), .agg (tabV .u8 16 g)] w fun e w' => e = .returned (.agg (tabV .u8 16 (xo f g))) ∧ Ext w w' := by
  have HF := Lib.hid hf
  have HG := Lib.hid hg
  clear hf hg
  go_enter Tryz.func106, Tryz.ntmps106
  go_wp2_with (refine wpList_load_arr rfl 22 (.tmp 3) rfl (w.heap.size + 1) rfl 22 .u8 16 g _ (new3 _ _ _ _).2.1 Tryz.underlying22 size_bk ?_)
  go_loopw [8] (fun v wr => ∃ i : Nat, i ≤ 16 ∧ v = .int .i64 i ∧ Arr wr w.heap.size 22 .u8 16 (fun j => if j < i then f j ^^^ g j else f j) ∧ Arr wr (w.heap.size + 1 + 1) 22 .u8 16 (fun _ => 0) ∧ Ext w wr) (fun v _ => 16 - (intOf v).toNat)
  case atStart =>
    obtain ⟨h0, h1, h2⟩ := new3 w (.cells (tabV .u8 16 f) 22) (.cells (tabV .u8 16 g) 22) (.cells (tabV .u8 16 (fun _ => 0)) 22)
    refine ⟨0, by omega, rfl, ?_, h2, ((Ext.alloc _ _).tr (Ext.alloc _ _)).tr (Ext.alloc _ _)⟩
    refine Arr.congr (f := f) h0 (fun i hi => by simp)
  case round =>
    obtain ⟨i, hi, rfl, hA, hB, hx⟩ := hrel
    by_cases hlt : i < 16
    · have hc := hA.cell (i := i) hlt
      rw [if_neg (by omega)] at hc
      have hfr := hA.free i
      have hidx := fun w => run_index_tab (P := Tryz.prog) (t := 22) Tryz.underlying22 Tryz.underlying5 size_u8 g i hlt w
      have q := u8_xor_nat _ _ (HF.out i hlt) (HG.out i hlt)
      have HA := Lib.hid hA
      have HB := Lib.hid hB
      have HX := Lib.hid hx
      have i1 : (i : Int) < 16 := by omega
      clear hA hB hx
      go_wp2_with fail
      go_roundw
      case rel =>
        refine ⟨i + 1, by omega, by go_num, HA.out.to hlt ?_ (fun j _ hne => ?_), HB.out.other (by omega) _ _, ext_setCell HX.out (by simp) _⟩
        · rw [if_pos (by omega)]
        · by_cases hj : j < i
          · rw [if_pos hj, if_pos (by omega)]
          · rw [if_neg hj, if_neg (by omega)]
      case measure => simp [intOf]; omega
    · have e16 : i = 16 := by omega
      subst e16
      have HA := Lib.hid (hA.congr (f' := xo f g) (fun j hj => by rw [if_pos hj]; rfl))
      have HB := Lib.hid hB
      have HX := Lib.hid hx
      clear hA hB hx
      go_wp2_with (first
        | refine wpList_load_arr rfl 22 (.tmp 2) rfl w.heap.size rfl 22 .u8 16 (xo f g) _ HA.out Tryz.underlying22 size_bk ?_
        | (refine wpList_store_arr' rfl rfl 22 (.tmp 4) (.tmp 19) rfl (w.heap.size + 1 + 1) .u8 16 (xo f g) rfl rfl 22 _ HB.out size_bk tabV_size ?_; intro w5 hA5 hG5))
      refine bodyPost_ret (v := .agg (tabV .u8 16 (xo f g))) ?_ rfl ⟨rfl, grown_new HX.out hG5 (fun g hg => by simp at hg; omega)⟩
      exact results_cell_row rfl _ _ _ _ _ _ _ rfl hA5 Tryz.underlying22 rfl (by rw [tabV_size]; exact size_bk)

/-- the functions of bytes that are handed over -/
def ByFn (fn : Nat) (t : Nat → Nat) : Prop := fn = 112 ∧ t = sb
set_option maxRecDepth 100000 in
set_option maxHeartbeats 1000000 in
theorem each_c (fn : Nat) (t : Nat → Nat) (hfn : ByFn fn t) (f : Bk) (hf : Byt f) (w : World) :
    Calls Tryz.prog 111 #[.agg (tabV .u8 16 f), .func (.func fn) #[] #[]] w fun e w' => e = .returned (.agg (tabV .u8 16 (ea t f))) ∧ Ext w w' := by
  have HF := Lib.hid hf
  have HT := Lib.hid hfn
  clear hf hfn
  go_enter Tryz.func111, Tryz.ntmps111
  go_wp2_with (refine wpList_load_arr rfl 22 (.tmp 2) rfl w.heap.size rfl 22 .u8 16 f _ (two_new _ _ _).1 Tryz.underlying22 size_bk ?_)
  go_loopw [8] (fun v wr => ∃ i : Nat, i ≤ 16 ∧ v = .int .i64 i ∧ Arr wr w.heap.size 22 .u8 16 (fun j => if j < i then t (f j) else f j) ∧ Arr wr (w.heap.size + 1) 22 .u8 16 (fun _ => 0) ∧ Ext w wr) (fun v _ => 16 - (intOf v).toNat)
  case atStart =>
    obtain ⟨h0, h1⟩ := two_new w (.cells (tabV .u8 16 f) 22) (.cells (tabV .u8 16 (fun _ => 0)) 22)
    refine ⟨0, by omega, rfl, ?_, h1, (Ext.alloc _ _).tr (Ext.alloc _ _)⟩
    refine Arr.congr (f := f) h0 (fun i hi => by simp)
  case round =>
    obtain ⟨i, hi, rfl, hA, hB, hx⟩ := hrel
    by_cases hlt : i < 16
    · have hc := hA.cell (i := i) hlt
      rw [if_neg (by omega)] at hc
      have hfr := hA.free i
      have hidx := fun w => run_index_tab (P := Tryz.prog) (t := 22) Tryz.underlying22 Tryz.underlying5 size_u8 f i hlt w
      have hb := HF.out i hlt
      have HA := Lib.hid hA
      have HB := Lib.hid hB
      have HX := Lib.hid hx
      have i1 : (i : Int) < 16 := by omega
      clear hA hB hx
      obtain ⟨rfl, rfl⟩ := HT.out
      · go_wp2_with fail
        refine (sub_c _ hb _).mono ?_
        rintro e v ⟨rfl, rfl⟩
        go_wp2_with fail
        go_roundw
        case rel =>
          refine ⟨i + 1, by omega, by go_num, HA.out.to hlt ?_ (fun j _ hne => ?_), HB.out.other (by omega) _ _, ext_setCell HX.out (by simp) _⟩
          · rw [if_pos (by omega)]
          · by_cases hj : j < i
            · rw [if_pos hj, if_pos (by omega)]
            · rw [if_neg hj, if_neg (by omega)]
        case measure => simp [intOf]; omega
    · have e16 : i = 16 := by omega
      subst e16
      have HA := Lib.hid (hA.congr (f' := ea t f) (fun j hj => by rw [if_pos hj]; rfl))
      have HB := Lib.hid hB
      have HX := Lib.hid hx
      clear hA hB hx
      go_wp2_with (first
        | refine wpList_load_arr rfl 22 (.tmp 2) rfl w.heap.size rfl 22 .u8 16 (ea t f) _ HA.out Tryz.underlying22 size_bk ?_
        | (refine wpList_store_arr' rfl rfl 22 (.tmp 4) (.tmp 18) rfl (w.heap.size + 1) .u8 16 (ea t f) rfl rfl 22 _ HB.out size_bk tabV_size ?_; intro w5 hA5 hG5))
      refine bodyPost_ret (v := .agg (tabV .u8 16 (ea t f))) ?_ rfl ⟨rfl, grown_new HX.out hG5 (fun g hg => by simp at hg; omega)⟩
      exact results_cell_row rfl _ _ _ _ _ _ _ rfl hA5 Tryz.underlying22 rfl (by rw [tabV_size]; exact size_bk)
theorem byFn_sub : ByFn 112 sb := ⟨rfl, rfl⟩

set_option maxRecDepth 100000 in
set_option maxHeartbeats 1000000 in
theorem moved_c (n : Nat) (hn : n = 1 ∨ n = 3) (f : Bk) (hf : Byt f) (w : World) :
    Calls Tryz.prog 110 #[.agg (tabV .u8 16 f), .int .i64 n] w fun e w' => e = .returned (.agg (tabV .u8 16 (mv n f))) ∧ Ext w w' := by
  have HF := Lib.hid hf
  have HN := Lib.hid hn
  clear hf hn
  go_enter Tryz.func110, Tryz.ntmps110
  go_wp2_with fail
  go_loopw [8] (fun v wr => ∃ i : Nat, i ≤ 16 ∧ v = .int .i64 i ∧ Arr wr w.heap.size 22 .u8 16 f ∧ Arr wr (w.heap.size + 1) 22 .u8 16 (fun j => if j < i then mv n f j else 0) ∧ Ext w wr) (fun v _ => 16 - (intOf v).toNat)
  case atStart =>
    obtain ⟨h0, h1⟩ := two_new w (.cells (tabV .u8 16 f) 22) (.cells (tabV .u8 16 (fun _ => 0)) 22)
    refine ⟨0, by omega, rfl, h0, ?_, (Ext.alloc _ _).tr (Ext.alloc _ _)⟩
    refine Arr.congr (f := fun _ => 0) h1 (fun i hi => by simp)
  case round =>
    obtain ⟨i, hi, rfl, hA, hB, hx⟩ := hrel
    by_cases hlt : i < 16
    · have hcb := hB.cell (i := i) hlt
      have hfr := hB.free i
      have i1 : (i : Int) < 16 := by omega
      have fin : ∀ (v : Nat), v = mv n f i → Arr (wr.setCell ⟨w.heap.size + 1, i, none⟩ (.int .u8 v)) (w.heap.size + 1) 22 .u8 16 (fun j => if j < i + 1 then mv n f j else 0) := fun v hv => hB.to hlt (by rw [if_pos (by omega), hv]) (fun j _ hne => by
        by_cases hj : j < i
        · rw [if_pos hj, if_pos (by omega)]
        · rw [if_neg hj, if_neg (by omega)])
      have HA := Lib.hid hA
      have HX := Lib.hid hx
      have HFIN := Lib.hid fin
      rcases HN.out with rfl | rfl
      · have e : i % 4 + 4 * ((i / 4 + i) % 4) = i % 4 + 4 * ((i / 4 + 1 * (i % 4)) % 4) := by omega
        have hm : i % 4 + 4 * ((i / 4 + i) % 4) < 16 := by omega
        have hc := hA.cell (i := i % 4 + 4 * ((i / 4 + i) % 4)) hm
        have HE := Lib.hid (show f (i % 4 + 4 * ((i / 4 + i) % 4)) = mv 1 f i by rw [e]; rfl)
        obtain ⟨v, hv⟩ : ∃ v, v = f (i % 4 + 4 * ((i / 4 + i) % 4)) := ⟨_, rfl⟩
        rw [← hv] at hc HE
        clear hA hB hx fin e hm hv
        go_wp2_with fail
        go_roundw
        case rel => exact ⟨i + 1, by omega, by go_num, HA.out.other (by omega) _ _, HFIN.out v HE.out, ext_setCell HX.out (by simp) _⟩
        case measure => simp [intOf]; omega
      · have e : i % 4 + 4 * ((i / 4 + 3 * i) % 4) = i % 4 + 4 * ((i / 4 + 3 * (i % 4)) % 4) := by omega
        have hm : i % 4 + 4 * ((i / 4 + 3 * i) % 4) < 16 := by omega
        have hc := hA.cell (i := i % 4 + 4 * ((i / 4 + 3 * i) % 4)) hm
        have hc' := hc
        rw [e] at hc'
        have HE := Lib.hid (show f (i % 4 + 4 * ((i / 4 + 3 * i) % 4)) = mv 3 f i by rw [e]; rfl)
        obtain ⟨v, hv⟩ : ∃ v, v = f (i % 4 + 4 * ((i / 4 + 3 * i) % 4)) := ⟨_, rfl⟩
        rw [e] at hv
        rw [e, ← hv] at hc HE
        rw [← hv] at hc'
        clear hA hB hx fin e hm hv hc
        go_wp2_with fail
        go_roundw
        case rel => exact ⟨i + 1, by omega, by go_num, HA.out.other (by omega) _ _, HFIN.out v HE.out, ext_setCell HX.out (by simp) _⟩
        case measure => simp [intOf]; omega
    · have e16 : i = 16 := by omega
      subst e16
      have HA := Lib.hid (hB.congr (f' := mv n f) (fun j hj => by rw [if_pos hj]))
      have HX := Lib.hid hx
      clear hA hB hx
      go_wp2_with (first
        | refine wpList_load_arr rfl 22 (.tmp 4) rfl (w.heap.size + 1) rfl 22 .u8 16 (mv n f) _ HA.out Tryz.underlying22 size_bk ?_
        | (refine wpList_store_arr' rfl rfl 22 (.tmp 4) (.tmp 29) rfl (w.heap.size + 1) .u8 16 (mv n f) rfl rfl 22 _ HA.out size_bk tabV_size ?_; intro w5 hA5 hG5))
      refine bodyPost_ret (v := .agg (tabV .u8 16 (mv n f))) ?_ rfl ⟨rfl, grown_new HX.out hG5 (fun g hg => by simp at hg; omega)⟩
      exact results_cell_row rfl _ _ _ _ _ _ _ rfl hA5 Tryz.underlying22 rfl (by rw [tabV_size]; exact size_bk)
end Go.Proofs.YtagegigffohcbaaGreatDoor

namespace Go.Proofs.YtagegigffohcbaaGreatDoor
open Go.RowKit

theorem size_q : (Tryz.prog.info? 134).map (·.size) = some 4 := by kernel_rfl
set_option maxRecDepth 100000 in
set_option maxHeartbeats 2000000 in
theorem closure_c (by_ f : Nat → Nat) (hby : ∀ i, i < 4 → by_ i < 256) (hf : ∀ i, i < 4 → f i < 256) (g r : Nat) (hr : r < 4) (w : World) (hg : Arr w g 134 .u8 4 by_) :
    Calls Tryz.prog 117 #[.agg (tabV .u8 4 f), .int .i64 r, .pointer (some ⟨g, 0, none⟩)] w fun e w' => e = .returned (.int .u8 (dot by_ (fun k => f ((r + k) % 4)) 4 : Nat)) ∧ Ext w w' := by
  have hF : ∀ i, i < 4 → (q4 (f r) (f ((r + 1) % 4)) (f ((r + 2) % 4)) (f ((r + 3) % 4))) i < 256 := by
    intro i hi
    unfold q4
    split
    · exact hf _ hr
    · split
      · exact hf _ (by omega)
      · split
        · exact hf _ (by omega)
        · exact hf _ (by omega)
  have e : dot by_ (fun k => f ((r + k) % 4)) 4 = dot by_ (q4 (f r) (f ((r + 1) % 4)) (f ((r + 2) % 4)) (f ((r + 3) % 4))) 4 := by
    simp only [dot, q4]
    rw [show (r + 0) % 4 = r by omega]
    rfl
  rw [e]
  have hdot := fun W => dot_c by_ (q4 (f r) (f ((r + 1) % 4)) (f ((r + 2) % 4)) (f ((r + 3) % 4))) hby hF W
  rw [tab4] at hdot
  have HDOT := Lib.hid hdot
  obtain ⟨g0, hg0⟩ : ∃ g0, g0 = w.heap.size := ⟨_, rfl⟩
  have HG0 := Lib.hid hg0
  have hA : Arr (w.alloc (.cells (tabV .u8 4 f) 134)) g0 134 .u8 4 f := by rw [hg0]; exact Arr.new _ _ _ _ _
  have hB := hg.ext (Ext.alloc w (.cells (tabV .u8 4 f) 134))
  obtain ⟨wd, hwd⟩ : ∃ wd, wd = (w.alloc (.cells (tabV .u8 4 f) 134)).drew := ⟨_, rfl⟩
  have HA : Hid (Arr wd g0 134 .u8 4 f) := Lib.hid (by rw [hwd]; exact hA.ext (Ext.drew _))
  have HB : Hid (Arr wd g 134 .u8 4 by_) := Lib.hid (by rw [hwd]; exact hB.ext (Ext.drew _))
  have HX : Hid (Ext w wd) := Lib.hid (by rw [hwd]; exact (Ext.alloc _ _).tr (Ext.drew _))
  have HWD := Lib.hid hwd
  have i1 : (r : Int) < 4 := by omega
  have q1 : IntKind.i64.wrap ((r : Int) + 1) = (r : Int) + 1 := IntWalk.i64_in _ (by omega)
  have q2 : IntKind.i64.wrap ((r : Int) + 2) = (r : Int) + 2 := IntWalk.i64_in _ (by omega)
  have q3 : IntKind.i64.wrap ((r : Int) + 3) = (r : Int) + 3 := IntWalk.i64_in _ (by omega)
  obtain ⟨s1, hs1⟩ : ∃ s1, s1 = (r + 1) % 4 := ⟨_, rfl⟩
  obtain ⟨s2, hs2⟩ : ∃ s2, s2 = (r + 2) % 4 := ⟨_, rfl⟩
  obtain ⟨s3, hs3⟩ : ∃ s3, s3 = (r + 3) % 4 := ⟨_, rfl⟩
  have m1 : ((r : Int) + 1).tmod 4 = (s1 : Int) := by rw [Int.tmod_eq_emod_of_nonneg (by omega)]; omega
  have m2 : ((r : Int) + 2).tmod 4 = (s2 : Int) := by rw [Int.tmod_eq_emod_of_nonneg (by omega)]; omega
  have m3 : ((r : Int) + 3).tmod 4 = (s3 : Int) := by rw [Int.tmod_eq_emod_of_nonneg (by omega)]; omega
  have l1 : (s1 : Int) < 4 := by omega
  have l2 : (s2 : Int) < 4 := by omega
  have l3 : (s3 : Int) < 4 := by omega
  rw [← hs1, ← hs2, ← hs3] at HDOT ⊢
  have S1 : s1 < 4 := by omega
  have S2 : s2 < 4 := by omega
  have S3 : s3 < 4 := by omega
  clear hs1 hs2 hs3
  clear hby hf hF e hdot hA hB hg hwd
  go_enter Tryz.func117, Tryz.ntmps117
  go_wp2_with fail
  rw [← hg0]
  clear hg0
  refine wp_region_ord 21 (fun W => Ext wd W) (by kernel_rfl) (by kernel_rfl) (by decide) (by kernel_rfl) (by rw [HWD.out]; exact Ext.refl _) ?_
  simp only [List.take_succ_cons, List.take_zero, List.drop_succ_cons, List.drop_zero]
  refine wpTxt_step (.agg (tabV .u8 4 by_)) (fun W K hS hK => wp_load_arr 134 (.tmp 2) rfl g rfl .u8 4 by_ _ _ (HB.out.ext hS) Tryz.underlying134 size_q (hK _ hS)) rfl ?_
  simp only [Act.put, List.setIfInBounds_toArray, List.set_cons_zero, List.set_cons_succ]
  repeat (refine wpTxt_step ?_ (fun W K hS hK => ?_) rfl ?_; rotate_left; (have c0 := (HA.out.ext hS).cell (i := r) (by omega); have c1 := (HA.out.ext hS).cell (i := s1) S1; have c2 := (HA.out.ext hS).cell (i := s2) S2; have c3 := (HA.out.ext hS).cell (i := s3) S3; simp only [Act.put, List.setIfInBounds_toArray, List.set_cons_zero, List.set_cons_succ] at hK; go_simp; exact hK _ hS); simp only [Act.put, List.setIfInBounds_toArray, List.set_cons_zero, List.set_cons_succ])
  refine wpTxt_step ?_ (fun W K hS hK => ?_) rfl ?_
  rotate_left
  · simp only [Act.put, List.setIfInBounds_toArray, List.set_cons_zero, List.set_cons_succ] at hK
    go_simp
    refine (HDOT.out W).mono ?_
    rintro e W' ⟨rfl, hx'⟩
    exact hK _ (hS.tr hx')
  simp only [Act.put, List.setIfInBounds_toArray, List.set_cons_zero, List.set_cons_succ]
  refine wpTxt_nil ?_
  intro W hS
  have HX2 := Lib.hid (HX.out.tr hS)
  clear hS
  go_wp2_with fail
  go_ret
  exact ⟨rfl, HX2.out⟩

/-- the block while column c is mixed, up to row r -/
def mxp (b : Nat → Nat) (f : Bk) (c r : Nat) : Bk := fun j => if j / 4 < c ∨ (j / 4 = c ∧ j % 4 < r) then mx b f j else f j
set_option maxRecDepth 100000 in
set_option maxHeartbeats 4000000 in
theorem mixed_c (by_ : Nat → Nat) (f : Bk) (hby : ∀ i, i < 4 → by_ i < 256) (hf : Byt f) (w : World) :
    Calls Tryz.prog 113 #[.agg (tabV .u8 16 f), .agg (tabV .u8 4 by_)] w fun e w' => e = .returned (.agg (tabV .u8 16 (mx by_ f))) ∧ Ext w w' := by
  have HF := Lib.hid hf
  have HBY := Lib.hid hby
  clear hf hby
  go_enter Tryz.func113, Tryz.ntmps113
  go_wp2_with fail
  go_loopw [6] (fun v wr => ∃ c i : Nat, c ≤ 4 ∧ Hid (i = 4 * c) ∧ v = .int .i64 i ∧ Arr wr w.heap.size 22 .u8 16 (mxp by_ f c 0) ∧ Arr wr (w.heap.size + 1) 134 .u8 4 by_ ∧ Arr wr (w.heap.size + 1 + 1) 22 .u8 16 (fun _ => 0) ∧ Ext w wr) (fun v _ => 16 - (intOf v).toNat)
  case atStart =>
    obtain ⟨h0, h1, h2⟩ := new3 w (.cells (tabV .u8 16 f) 22) (.cells (tabV .u8 4 by_) 134) (.cells (tabV .u8 16 (fun _ => 0)) 22)
    refine ⟨0, 0, by omega, Lib.hid rfl, rfl, ?_, h1, h2, ((Ext.alloc _ _).tr (Ext.alloc _ _)).tr (Ext.alloc _ _)⟩
    refine Arr.congr (f := f) h0 (fun i hi => ?_)
    unfold mxp
    rw [if_neg (by omega)]
  case round =>
    obtain ⟨c, i, hc, HI, rfl, hA, hB, hC, hx⟩ := hrel
    by_cases hlt : c < 4
    · have hi : i ≤ 12 := by have := HI.out; omega
      have i0 : (i : Int) < 16 := by omega
      have i1 : (i : Int) + 1 < 16 := by omega
      have i2 : (i : Int) + 2 < 16 := by omega
      have i3 : (i : Int) + 3 < 16 := by omega
      have q1 : IntKind.i64.wrap ((i : Int) + 1) = (i : Int) + 1 := IntWalk.i64_in _ (by omega)
      have q2 : IntKind.i64.wrap ((i : Int) + 2) = (i : Int) + 2 := IntWalk.i64_in _ (by omega)
      have q3 : IntKind.i64.wrap ((i : Int) + 3) = (i : Int) + 3 := IntWalk.i64_in _ (by omega)
      have t1 : ((i : Int) + 1).toNat = i + 1 := by omega
      have t2 : ((i : Int) + 2).toNat = i + 2 := by omega
      have t3 : ((i : Int) + 3).toNat = i + 3 := by omega
      obtain ⟨wd, hwd⟩ : ∃ wd, wd = wr.drew := ⟨_, rfl⟩
      obtain ⟨w1, hw1⟩ : ∃ w1, w1 = wd.alloc (.cells (tabV .u8 4 (fun _ => 0)) 134) := ⟨_, rfl⟩
      obtain ⟨ga, hga⟩ : ∃ ga, ga = wd.heap.size := ⟨_, rfl⟩
      have x1 : Ext wd w1 := by rw [hw1]; exact Ext.alloc _ _
      have xd : Ext wr wd := by rw [hwd]; exact Ext.drew _
      have hz : Arr w1 ga 134 .u8 4 (fun _ => 0) := by rw [hw1, hga]; exact Arr.new _ _ _ _ _
      have hgl : w.heap.size + 1 + 1 < ga := by rw [hga]; exact (hC.ext xd).lt
      have hcell : ∀ W, (W = wd ∨ W = w1) → ∀ k, k < 4 → W.cell? ⟨w.heap.size, i + k, none⟩ = some (.int .u8 (f (i + k) : Nat)) := by
        intro W hW k hk
        have h1 : Arr W w.heap.size 22 .u8 16 (mxp by_ f c 0) := by
          rcases hW with rfl | rfl
          · exact hA.ext xd
          · exact (hA.ext xd).ext x1
        have h2 := h1.cell (i := i + k) (by omega)
        unfold mxp at h2
        have := HI.out
        rw [if_neg (by omega)] at h2
        exact h2
      have HCELL := Lib.hid hcell
      have HA := Lib.hid ((hA.ext xd).ext x1)
      have HB := Lib.hid ((hB.ext xd).ext x1)
      have HC := Lib.hid ((hC.ext xd).ext x1)
      have HX := Lib.hid ((hx.tr xd).tr x1)
      have HZ := Lib.hid hz
      have HWD := Lib.hid hwd
      have HW1 := Lib.hid hw1
      have HGA := Lib.hid hga
      have HGL := Lib.hid hgl
      clear hA hB hC hx hz hwd hw1 hga hgl hcell x1 xd
      go_wp2_with fail
      refine wp_region_ordL 17 (Alt 16 wd w1) (by kernel_rfl) (by kernel_rfl) (by decide) (by kernel_rfl) (show wr.drew = if false = true then w1 else wd by rw [if_neg (by decide)]; exact HWD.out.symm) ?_
      simp only [List.take_succ_cons, List.take_zero, List.drop_succ_cons, List.drop_zero]
      repeat (refine wpTxt_alt ?_ (by decide) (fun W K hS hK => ?_) rfl ?_; rotate_left; (have c0 := HCELL.out W hS 0 (by decide); rw [Nat.add_zero] at c0; have c1 := HCELL.out W hS 1 (by decide); have c2 := HCELL.out W hS 2 (by decide); have c3 := HCELL.out W hS 3 (by decide); simp only [Act.put, List.setIfInBounds_toArray, List.set_cons_zero, List.set_cons_succ] at hK; go_simp; exact hK); simp only [Act.put, List.setIfInBounds_toArray, List.set_cons_zero, List.set_cons_succ])
      refine wpTxt_turn ?_ (fun K hK => ?_) rfl ?_
      rotate_left
      · simp only [Act.put, List.setIfInBounds_toArray, List.set_cons_zero, List.set_cons_succ] at hK
        rw [HW1.out] at hK
        go_simp
        rw [← HGA.out]
        exact hK
      simp only [Act.put, List.setIfInBounds_toArray, List.set_cons_zero, List.set_cons_succ]
      refine wpTxt_nil ?_
      intro L W hL hS
      unfold Alt at hS
      rw [hL 16 (by decide), if_pos rfl] at hS
      subst hS
      have HT := Lib.hid (show Arr W ga 134 .u8 4 (fun _ => 0) from HZ.out)
      clear HCELL HW1 HWD HGA HZ t1 t2 t3 q1 q2 q3 i0 i1 i2 i3 hL
      obtain ⟨Q, hQ⟩ : ∃ Q, Q = q4 (f i) (f (i + 1)) (f (i + 2)) (f (i + 3)) := ⟨_, rfl⟩
      have hQk : ∀ k, k < 4 → Q k = f (i + k) := by
        intro k hk
        rw [hQ]
        unfold q4
        rcases (show k = 0 ∨ k = 1 ∨ k = 2 ∨ k = 3 by omega) with rfl | rfl | rfl | rfl <;> rfl
      have hQb : ∀ k, k < 4 → Q k < 256 := fun k hk => by rw [hQk k hk]; exact HF.out _ (by omega)
      go_wp2_with (refine wpList_store_arr' rfl rfl 134 (.tmp 7) (.tmp 29) rfl ga .u8 4 (q4 (f i) (f (i + 1)) (f (i + 2)) (f (i + 3))) rfl rfl 134 _ HT.out size_q tabV_size ?_
                   intro w2 hA2 hG2)
      rw [← hQ] at hA2
      have HQ := Lib.hid hA2
      have hgl := HGL.out
      have HA2 := Lib.hid (show Arr w2 w.heap.size 22 .u8 16 (mxp by_ f c 0) from grown_get hG2 HA.out (by simp; omega))
      have HB2 := Lib.hid (show Arr w2 (w.heap.size + 1) 134 .u8 4 by_ from grown_get hG2 HB.out (by simp; omega))
      have HC2 := Lib.hid (show Arr w2 (w.heap.size + 1 + 1) 22 .u8 16 (fun _ => 0) from grown_get hG2 HC.out (by simp; omega))
      have HX2 := Lib.hid (grown_new HX.out hG2 (fun g hg => by simp at hg; omega))
      have HQK := Lib.hid hQk
      have HQB := Lib.hid hQb
      clear hA2 hG2 HA HB HC HX HT hQ hQk hQb hgl
      go_wp2_with fail
      go_loopw [30] (fun v wi => ∃ r : Nat, r ≤ 4 ∧ v = .int .i64 r ∧ Arr wi w.heap.size 22 .u8 16 (mxp by_ f c r) ∧ Arr wi (w.heap.size + 1) 134 .u8 4 by_ ∧ Arr wi (w.heap.size + 1 + 1) 22 .u8 16 (fun _ => 0) ∧ Arr wi ga 134 .u8 4 Q ∧ Ext w wi) (fun v _ => 4 - (intOf v).toNat)
      case atStart => exact ⟨0, by omega, rfl, HA2.out, HB2.out, HC2.out, HQ.out, HX2.out⟩
      case round =>
        obtain ⟨r, hr, rfl, hA, hB, hC, hQ, hx⟩ := hrel
        by_cases hlr : r < 4
        · have HA := Lib.hid hA
          have HB := Lib.hid hB
          have HC := Lib.hid hC
          have HQ3 := Lib.hid hQ
          have HX := Lib.hid hx
          have r1 : (r : Int) < 4 := by omega
          have r2 : (i : Int) + (r : Int) < 16 := by omega
          have q1 : IntKind.i64.wrap ((i : Int) + (r : Int)) = (i : Int) + (r : Int) := IntWalk.i64_in _ (by omega)
          have t1 : ((i : Int) + (r : Int)).toNat = i + r := by omega
          clear hA hB hC hQ hx
          go_wp2_with (refine wpList_load_arr rfl 134 (.tmp 7) rfl ga rfl 134 .u8 4 Q _ HQ3.out Tryz.underlying134 size_q ?_)
          refine (closure_c by_ Q HBY.out HQB.out (w.heap.size + 1) r hlr _ HB.out).mono ?_
          rintro e w3 ⟨rfl, hx3⟩
          obtain ⟨d, hd⟩ : ∃ d, d = dot by_ (fun k => Q ((r + k) % 4)) 4 := ⟨_, rfl⟩
          have hdm : d = mx by_ f (i + r) := by
            have := HI.out
            rw [hd]
            unfold mx
            rw [show (i + r) / 4 = c by omega, show (i + r) % 4 = r by omega]
            exact dot_congr 4 (fun _ _ => rfl) (fun k _ => by rw [HQK.out _ (by omega), this])
          rw [← hd]
          have hA3 := HA.out.ext hx3
          have c1 := hA3.cell (i := i + r) (by omega)
          have f1 := hA3.free (i + r)
          have HD := Lib.hid hdm
          have HA3 := Lib.hid hA3
          have HB3 := Lib.hid (HB.out.ext hx3)
          have HC3 := Lib.hid (HC.out.ext hx3)
          have HQ4 := Lib.hid (HQ3.out.ext hx3)
          have HX3 := Lib.hid (HX.out.tr hx3)
          clear hd hdm hA3 hx3 HA HB HC HQ3 HX
          go_wp2_with fail
          go_roundw
          case rel =>
            have hi4 := HI.out
            have hgl := HGL.out
            refine ⟨r + 1, by omega, by go_num, HA3.out.to (by omega) ?_ (fun j hj hne => ?_), HB3.out.other (by omega) _ _, HC3.out.other (by omega) _ _, HQ4.out.other (by omega) _ _, ext_setCell HX3.out (by simp) _⟩
            · unfold mxp
              rw [if_pos (by omega), HD.out]
            · unfold mxp
              by_cases h1 : j / 4 < c ∨ (j / 4 = c ∧ j % 4 < r)
              · rw [if_pos h1, if_pos (by omega)]
              · rw [if_neg h1, if_neg (by omega)]
          case measure => simp [intOf]; omega
        · have e4 : r = 4 := by omega
          subst e4
          have HA := Lib.hid hA
          have HB := Lib.hid hB
          have HC := Lib.hid hC
          have HX := Lib.hid hx
          have q4' : IntKind.i64.wrap ((i : Int) + 4) = (i : Int) + 4 := IntWalk.i64_in _ (by omega)
          clear hA hB hC hQ hx
          go_wp2_with fail
          go_roundw
          case rel =>
            refine ⟨c + 1, i + 4, by omega, Lib.hid (by have := HI.out; omega), by go_num, HA.out.congr (fun j hj => ?_), HB.out, HC.out, HX.out⟩
            unfold mxp
            by_cases h1 : j / 4 < c ∨ (j / 4 = c ∧ j % 4 < 4)
            · rw [if_pos h1, if_pos (by omega)]
            · rw [if_neg h1, if_neg (by omega)]
          case measure => simp [intOf]; omega
    · have ec : c = 4 := by omega
      have ei : i = 16 := by have := HI.out; omega
      subst ec
      subst ei
      have HA := Lib.hid (hA.congr (f' := mx by_ f) (fun j hj => by unfold mxp; rw [if_pos (by omega)]))
      have HC := Lib.hid hC
      have HX := Lib.hid hx
      clear hA hB hC hx HI
      go_wp2_with (first
        | refine wpList_load_arr rfl 22 (.tmp 2) rfl w.heap.size rfl 22 .u8 16 (mx by_ f) _ HA.out Tryz.underlying22 size_bk ?_
        | (refine wpList_store_arr' rfl rfl 22 (.tmp 4) (.tmp 42) rfl (w.heap.size + 1 + 1) .u8 16 (mx by_ f) rfl rfl 22 _ HC.out size_bk tabV_size ?_; intro w5 hA5 hG5))
      refine bodyPost_ret (v := .agg (tabV .u8 16 (mx by_ f))) ?_ rfl ⟨rfl, grown_new HX.out hG5 (fun g hg => by simp at hg; omega)⟩
      exact results_cell_row rfl _ _ _ _ _ _ _ rfl hA5 Tryz.underlying22 rfl (by rw [tabV_size]; exact size_bk)
end Go.Proofs.YtagegigffohcbaaGreatDoor

namespace Go.Proofs.YtagegigffohcbaaGreatDoor
open Go.RowKit

/-- the key while its first r bytes are done -/
def nxa (f : Bk) (r : Nat) : Bk := fun j => if j < r then f j ^^^ sb (f (12 + (j + 1) % 4)) else f j
/-- the key while its first i bytes are done, i ≥ 4 -/
def nxb (f : Bk) (c i : Nat) : Bk := fun j => if j < i then nx f c j else f j
theorem nx_low (f : Bk) (c : Nat) {j : Nat} (h : j < 4) : nx f c j = (f j ^^^ sb (f (12 + (j + 1) % 4))) ^^^ (if j = 0 then c else 0) := by
  unfold nx
  rw [show j / 4 = 0 by omega, show j % 4 = j by omega, nxc]
theorem nx_high (f : Bk) (c : Nat) {j : Nat} (h : 4 ≤ j) : nx f c j = f j ^^^ nx f c (j - 4) := by
  unfold nx
  obtain ⟨k, hk⟩ : ∃ k, j / 4 = k + 1 := ⟨j / 4 - 1, by omega⟩
  rw [hk, nxc, show (j - 4) / 4 = k by omega, show (j - 4) % 4 = j % 4 by omega, show 4 * (k + 1) + j % 4 = j by omega]
set_option maxRecDepth 100000 in
set_option maxHeartbeats 2000000 in
theorem next_c (f : Bk) (hf : Byt f) (c : Nat) (hc : c < 256) (w : World) :
    Calls Tryz.prog 108 #[.agg (tabV .u8 16 f), .int .u8 c] w fun e w' => e = .returned (.agg (tabV .u8 16 (nx f c))) ∧ Ext w w' := by
  have HF := Lib.hid hf
  clear hf
  go_enter Tryz.func108, Tryz.ntmps108
  go_wp2_with fail
  go_loopw [7] (fun v wr => ∃ r : Nat, r ≤ 4 ∧ v = .int .i64 r ∧ Arr wr w.heap.size 22 .u8 16 (nxa f r) ∧ Arr wr (w.heap.size + 1) 22 .u8 16 (fun _ => 0) ∧ Ext w wr) (fun v _ => 4 - (intOf v).toNat)
  case atStart =>
    obtain ⟨h0, h1⟩ := two_new w (.cells (tabV .u8 16 f) 22) (.cells (tabV .u8 16 (fun _ => 0)) 22)
    refine ⟨0, by omega, rfl, ?_, h1, (Ext.alloc _ _).tr (Ext.alloc _ _)⟩
    refine Arr.congr (f := f) h0 (fun i hi => by unfold nxa; simp)
  case round =>
    obtain ⟨r, hr, rfl, hA, hB, hx⟩ := hrel
    by_cases hlt : r < 4
    · obtain ⟨wd, hwd⟩ : ∃ wd, wd = wr.drew := ⟨_, rfl⟩
      have xd : Ext wr wd := by rw [hwd]; exact Ext.drew _
      obtain ⟨s1, hs1⟩ : ∃ s1, s1 = (r + 1) % 4 := ⟨_, rfl⟩
      have hA1 := hA.ext xd
      have c0 := hA1.cell (i := r) (by omega)
      have c1 := hA1.cell (i := 12 + s1) (by omega)
      have fr := hA1.free r
      unfold nxa at c0 c1
      rw [if_neg (by omega)] at c0 c1
      have b0 := HF.out r (by omega)
      have b1 := HF.out (12 + s1) (by omega)
      have b2 := sb_lt _ b1
      have q0 := u8_xor_nat _ _ b0 b2
      have m1 : ((r : Int) + 1).tmod 4 = (s1 : Int) := by rw [Int.tmod_eq_emod_of_nonneg (by omega)]; omega
      have q1 : IntKind.i64.wrap ((r : Int) + 1) = (r : Int) + 1 := IntWalk.i64_in _ (by omega)
      have q2 : IntKind.i64.wrap (12 + (s1 : Int)) = 12 + (s1 : Int) := IntWalk.i64_in _ (by omega)
      have l1 : (12 : Int) + (s1 : Int) < 16 := by omega
      have t1 : ((12 : Int) + (s1 : Int)).toNat = 12 + s1 := by omega
      have i1 : (r : Int) < 4 := by omega
      have i2 : (r : Int) < 16 := by omega
      have HA := Lib.hid hA1
      have HB := Lib.hid (hB.ext xd)
      have HX := Lib.hid (hx.tr xd)
      have HWD := Lib.hid hwd
      have HS := Lib.hid hs1
      clear hA hB hx hA1 xd hwd hs1
      go_wp2_with fail
      refine wp_region_ord 11 (fun W => W = wd) (by kernel_rfl) (by kernel_rfl) (by decide) (by kernel_rfl) HWD.out.symm ?_
      simp only [List.take_succ_cons, List.take_zero, List.drop_succ_cons, List.drop_zero]
      repeat (refine wpTxt_stay ?_ (fun K hK => ?_) rfl ?_; rotate_left; (simp only [Act.put, List.setIfInBounds_toArray, List.set_cons_zero, List.set_cons_succ] at hK; go_simp; exact hK); simp only [Act.put, List.setIfInBounds_toArray, List.set_cons_zero, List.set_cons_succ])
      refine wpTxt_stay ?_ (fun K hK => ?_) rfl ?_
      rotate_left
      · simp only [Act.put, List.setIfInBounds_toArray, List.set_cons_zero, List.set_cons_succ] at hK
        go_simp
        refine (sub_c _ b1 _).mono ?_
        rintro e v ⟨rfl, rfl⟩
        exact hK
      simp only [Act.put, List.setIfInBounds_toArray, List.set_cons_zero, List.set_cons_succ]
      repeat (refine wpTxt_stay ?_ (fun K hK => ?_) rfl ?_; rotate_left; (simp only [Act.put, List.setIfInBounds_toArray, List.set_cons_zero, List.set_cons_succ] at hK; go_simp; exact hK); simp only [Act.put, List.setIfInBounds_toArray, List.set_cons_zero, List.set_cons_succ])
      refine wpTxt_nil ?_
      rintro W rfl
      go_wp2_with fail
      refine ⟨⟨r + 1, by omega, by go_num, HA.out.to (by omega) ?_ (fun j hj hne => ?_), HB.out.other (by omega) _ _, ext_setCell HX.out (by simp) _⟩, ?_⟩
      · unfold nxa
        rw [if_pos (by omega), HS.out]
      · unfold nxa
        by_cases h1 : j < r
        · rw [if_pos h1, if_pos (by omega)]
        · rw [if_neg h1, if_neg (by omega)]
      · simp only [intOf]
        omega
    · have e4 : r = 4 := by omega
      subst e4
      have c0 := hA.cell (i := 0) (by decide)
      have fr := hA.free 0
      have b0 : nxa f 4 0 < 256 := by
        unfold nxa
        rw [if_pos (by decide)]
        exact xor8 (HF.out _ (by decide)) (sb_lt _ (HF.out _ (by decide)))
      have q0 := u8_xor_nat _ _ b0 hc
      obtain ⟨x, hxx⟩ : ∃ x, x = nxa f 4 0 := ⟨_, rfl⟩
      rw [← hxx] at c0 b0 q0
      have HXX := Lib.hid hxx
      have HA := Lib.hid hA
      have HB := Lib.hid hB
      have HX := Lib.hid hx
      clear hA hB hx hxx
      go_wp2_with fail
      have h1 : Arr (wr.setCell ⟨w.heap.size, 0, none⟩ (.int .u8 (x ^^^ c : Nat))) w.heap.size 22 .u8 16 (nxb f c 4) := by
        refine HA.out.to (by decide) ?_ (fun j hj hne => ?_)
        · unfold nxb
          rw [if_pos (by decide), nx_low _ _ (by decide), HXX.out]
          unfold nxa
          rfl
        · unfold nxb nxa
          by_cases h1 : j < 4
          · rw [if_pos h1, if_pos h1, nx_low _ _ h1, if_neg hne, Nat.xor_zero]
          · rw [if_neg h1, if_neg h1]
      have h2 := HB.out.other (g' := w.heap.size) (by omega) 0 (.int .u8 (x ^^^ c : Nat))
      have h3 := ext_setCell HX.out (p := ⟨w.heap.size, 0, none⟩) (by simp) (.int .u8 (x ^^^ c : Nat))
      obtain ⟨wo, hwo⟩ : ∃ wo, wo = wr.setCell ⟨w.heap.size, 0, none⟩ (.int .u8 (x ^^^ c : Nat)) := ⟨_, rfl⟩
      rw [← hwo] at h1 h2 h3 ⊢
      have HA := Lib.hid h1
      have HB := Lib.hid h2
      have HX := Lib.hid h3
      clear h1 h2 h3 hwo c0 fr b0 q0 HXX
      go_loopw [6] (fun v wi => ∃ i : Nat, 4 ≤ i ∧ i ≤ 16 ∧ v = .int .i64 i ∧ Arr wi w.heap.size 22 .u8 16 (nxb f c i) ∧ Arr wi (w.heap.size + 1) 22 .u8 16 (fun _ => 0) ∧ Ext w wi) (fun v _ => 16 - (intOf v).toNat)
      case atStart => exact ⟨4, by omega, by omega, rfl, HA.out, HB.out, HX.out⟩
      case round =>
        obtain ⟨i, h4, hi, rfl, hA, hB, hx⟩ := hrel
        by_cases hlt : i < 16
        · obtain ⟨wd, hwd⟩ : ∃ wd, wd = wr.drew := ⟨_, rfl⟩
          have xd : Ext wr wd := by rw [hwd]; exact Ext.drew _
          have hA1 := hA.ext xd
          have c0 := hA1.cell (i := i) (by omega)
          have c1 := hA1.cell (i := i - 4) (by omega)
          have fr := hA1.free i
          unfold nxb at c0 c1
          rw [if_neg (by omega)] at c0
          rw [if_pos (by omega)] at c1
          have b0 := HF.out i (by omega)
          have b1 := nx_byt HF.out hc (i - 4) (by omega)
          have q0 := u8_xor_nat _ _ b0 b1
          have q1 : IntKind.i64.wrap ((i : Int) - 4) = (i : Int) - 4 := IntWalk.i64_in _ (by omega)
          have t1 : ((i : Int) - 4).toNat = i - 4 := by omega
          have i1 : (i : Int) < 16 := by omega
          have i2 : (i : Int) - 4 < 16 := by omega
          have i3 : 0 ≤ (i : Int) - 4 := by omega
          have i4 : 4 ≤ (i : Int) := by omega
          have HA := Lib.hid hA1
          have HB := Lib.hid (hB.ext xd)
          have HX := Lib.hid (hx.tr xd)
          have HWD := Lib.hid hwd
          clear hA hB hx hA1 xd hwd
          go_wp2_with fail
          refine wp_region_ord 8 (fun W => W = wd) (by kernel_rfl) (by kernel_rfl) (by decide) (by kernel_rfl) HWD.out.symm ?_
          simp only [List.take_succ_cons, List.take_zero, List.drop_succ_cons, List.drop_zero]
          repeat (refine wpTxt_stay ?_ (fun K hK => ?_) rfl ?_; rotate_left; (simp only [Act.put, List.setIfInBounds_toArray, List.set_cons_zero, List.set_cons_succ] at hK; go_simp; exact hK); simp only [Act.put, List.setIfInBounds_toArray, List.set_cons_zero, List.set_cons_succ])
          refine wpTxt_nil ?_
          rintro W rfl
          go_wp2_with fail
          refine ⟨⟨i + 1, by omega, by omega, by go_num, HA.out.to (by omega) ?_ (fun j hj hne => ?_), HB.out.other (by omega) _ _, ext_setCell HX.out (by simp) _⟩, ?_⟩
          · unfold nxb
            rw [if_pos (by omega), nx_high f c h4]
          · unfold nxb
            by_cases h1 : j < i
            · rw [if_pos h1, if_pos (by omega)]
            · rw [if_neg h1, if_neg (by omega)]
          · simp only [intOf]
            omega
        · have e16 : i = 16 := by omega
          subst e16
          have HA := Lib.hid (hA.congr (f' := nx f c) (fun j hj => by unfold nxb; rw [if_pos hj]))
          have HB := Lib.hid hB
          have HX := Lib.hid hx
          clear hA hB hx
          go_wp2_with (first
            | refine wpList_load_arr rfl 22 (.tmp 2) rfl w.heap.size rfl 22 .u8 16 (nx f c) _ HA.out Tryz.underlying22 size_bk ?_
            | (refine wpList_store_arr' rfl rfl 22 (.tmp 4) (.tmp 41) rfl (w.heap.size + 1) .u8 16 (nx f c) rfl rfl 22 _ HB.out size_bk tabV_size ?_; intro w5 hA5 hG5))
          refine bodyPost_ret (v := .agg (tabV .u8 16 (nx f c))) ?_ rfl ⟨rfl, grown_new HX.out hG5 (fun g hg => by simp at hg; omega)⟩
          exact results_cell_row rfl _ _ _ _ _ _ _ rfl hA5 Tryz.underlying22 rfl (by rw [tabV_size]; exact size_bk)
end Go.Proofs.YtagegigffohcbaaGreatDoor

namespace Go.Proofs.YtagegigffohcbaaGreatDoor
open Go.RowKit
set_option linter.unusedVariables false
set_option linter.unusedSimpArgs false

theorem Arr.part {V : World} {g : Nat} {t : TypeId} {k : IntKind} {N n off : Nat} {F : Nat → Nat} (h : Arr V g t k N F) (hn : off + n ≤ N) : V.rangeAt g off (tabV k n (fun j => F (off + j))).toList := by
  intro j v hj
  rw [Array.getElem?_toList, tabV_get'] at hj
  split at hj
  · rename_i hjn
    injection hj with hj
    subst hj
    exact h.cell (by omega)
  · cases hj
theorem wp_load_part {P : Program} {o : Oper} {a : Act} {w : World} {K : Act → World → Prop} {Q : Exit → Act → World → Prop} (ty : TypeId) (x : Operand) (ho : o.op = .load ty x)
    (g off : Nat) (hx : a.eval x = .pointer (some ⟨g, off, none⟩)) (k : IntKind) (n : Nat) (f : Nat → Nat) (e : TypeId) (hg : w.rangeAt g off (tabV k n f).toList) (hu : P.underlying ty = some (.array n e)) (hz : (P.info? ty).map (·.size) = some n)
    (h : K (a.put o.dst (.agg (tabV k n f))) w) : o.wp P a w K Q := by
  refine wp_load_mid ty x ho g off hx (tabV k n f).toList _ hg hu rfl (by rw [Array.length_toList, tabV_size]; exact hz) ?_
  rw [Array.toArray_toList]
  exact h
theorem Arr.setL {g : Nat} {t : TypeId} {k : IntKind} {N : Nat} : ∀ (l : List Nat) (w : World) (o : Nat) (F : Nat → Nat), Arr w g t k N F → o + l.length ≤ N →
    Arr (w.setCells g o (l.map fun x => Value.int k (x : Nat))) g t k N (fun j => if o ≤ j ∧ j < o + l.length then l.getD (j - o) 0 else F j)
  | [], w, o, F, h, _ => by
    refine Arr.congr (f := F) h fun j _ => ?_
    rw [if_neg (fun hc => by have := hc.2; simp at this; omega)]
  | x :: l, w, o, F, h, hl => by
    simp only [List.length_cons] at hl
    have h1 := Arr.setL l (w.setCell ⟨g, o, none⟩ (.int k (x : Nat))) (o + 1) _ (h.set_ (i := o) (v := x) (by omega)) (by omega)
    refine Arr.congr h1 fun j _ => ?_
    simp only [List.length_cons]
    by_cases e : j = o
    · subst e
      rw [if_neg (by omega), if_pos rfl, if_pos (by omega)]
      simp
    · by_cases h2 : o + 1 ≤ j ∧ j < o + 1 + l.length
      · rw [if_pos h2, if_pos (by omega)]
        obtain ⟨m, hm⟩ : ∃ m, j - o = m + 1 := ⟨j - o - 1, by omega⟩
        rw [hm, show j - (o + 1) = m by omega, List.getD_cons_succ]
      · rw [if_neg h2, if_neg e, if_neg (by omega)]
theorem setL_other (g : Nat) {g' : Nat} (hne : g' ≠ g) : ∀ (l : List Value) (w : World) (o : Nat), (w.setCells g o l).heap[g']? = w.heap[g']? ∧ (w.setCells g o l).heap.size = w.heap.size
  | [], w, o => ⟨rfl, rfl⟩
  | x :: l, w, o => by
    obtain ⟨h1, h2⟩ := setL_other g hne l (w.setCell ⟨g, o, none⟩ x) (o + 1)
    exact ⟨h1.trans (Below.heap_setCell w ⟨g, o, none⟩ x g' (fun e => hne e)), h2.trans (by simp [World.setCell])⟩
theorem grown_setL (g : Nat) : ∀ (l : List Value) (w : World) (o : Nat), w.grownBy (w.setCells g o l) (some g)
  | [], w, o => ⟨rfl, rfl, rfl, Nat.le_refl _, fun _ _ _ => rfl⟩
  | x :: l, w, o => grown_tr (grown_set ⟨g, o, none⟩ rfl x) (grown_setL g l (w.setCell ⟨g, o, none⟩ x) (o + 1))
/-- a whole array is stored into a part of an array -/
theorem wpList_store_part {P : Program} {w : World} {ops : Array Oper} {rest : List Oper} {o : Oper} {a : Act} {Q : Exit → Act → World → Prop} (hgd : o.guard = none) (hdst : o.dst = none) (ty : TypeId) (x y : Operand) (ho : o.op = .store ty x y)
    (g off : Nat) (k : IntKind) (n : Nat) (f : Nat → Nat) (hx : a.eval x = .pointer (some ⟨g, off, none⟩)) (hy : a.eval y = .agg (tabV k n f)) (t : TypeId) (N : Nat) (F : Nat → Nat) (hg : Arr w g t k N F) (hn : off + n ≤ N)
    (hi : (P.info? ty).map (·.size) = some n) (h : ∀ w', Arr w' g t k N (fun j => if off ≤ j ∧ j < off + n then f (j - off) else F j) → w.grownBy w' (some g) → wpList P ops Q rest a w') : wpList P ops Q (o :: rest) a w := by
  refine wpList_store_mid hgd ty x y ho g off (tabV k n f) hx hy (fun j hj => ?_) (by rw [tabV_size]; exact hi) tabV_one ?_
  · rw [tabV_size] at hj
    rw [hg.cell (i := off + j) (by omega)]
    exact ⟨rfl, hg.free _⟩
  · have e : (tabV k n f).toList = ((List.range n).map f).map (fun x => Value.int k (x : Nat)) := by
      unfold tabV
      simp
    have h1 := Arr.setL ((List.range n).map f) w off F hg (by simpa using hn)
    rw [hdst]
    refine h _ ?_ (grown_setL g _ w off)
    rw [e]
    refine Arr.congr h1 fun j _ => ?_
    simp only [List.length_map, List.length_range]
    split
    · rename_i hj
      rw [List.getD_eq_getElem?_getD, List.getElem?_map, List.getElem?_range (by omega)]
      rfl
    · rfl
theorem wpList_build_one {P : Program} {ops : Array Oper} {rest : List Oper} {o : Oper} {a : Act} {w : World} {Q : Exit → Act → World → Prop} (hg : o.guard = none) (t : TypeId) (x : Operand) (ho : o.op = .build t #[(0, x)]) (v : Value) (hx : a.eval x = v) (k : IntKind) (n : Nat) (f : Nat → Nat)
    (hf : P.built t [(0, v)] = some (tabV k n f)) (h : wpList P ops Q rest (a.put o.dst (.agg (tabV k n f))) w) : wpList P ops Q (o :: rest) a w := by
  refine wpList_build_tab hg t #[(0, x)] ho k n f ?_ h
  simp only [List.map_toArray, List.map_cons, List.map_nil, hx]
  exact hf
theorem size_ks : (Tryz.prog.info? 127).map (·.size) = some 176 := by kernel_rfl
theorem built_ks (f : Nat → Nat) : Tryz.prog.built 127 [(0, .agg (tabV .u8 16 f))] = some (tabV .u8 176 (fun i => if i < 16 then f i else 0)) := by kernel_rfl
theorem zero_ks (W : World) : (zeroValue 127).run Tryz.prog W = .ok (.agg (tabV .u8 176 (fun _ => 0))) W := by kernel_rfl
/-- all round keys, one after the other -/
def kf (f : Bk) : Nat → Nat := fun i => kys f (i / 16) (i % 16)
def kfa (f : Bk) (n : Nat) : Nat → Nat := fun i => if i / 16 < n then kf f i else 0
set_option maxRecDepth 100000 in
set_option maxHeartbeats 4000000 in
theorem keys_c (f : Bk) (hf : Byt f) (w : World) :
    Calls Tryz.prog 105 #[.agg (tabV .u8 16 f)] w fun e w' => e = .returned (.agg (tabV .u8 176 (kf f))) ∧ Ext w w' := by
  have HF := Lib.hid hf
  clear hf
  have zk := zero_ks
  go_enter Tryz.func105, Tryz.ntmps105
  go_wp2_with (first
    | refine wpList_load_arr rfl 22 (.tmp 1) rfl w.heap.size rfl 22 .u8 16 f _ (two_new _ _ _).1 Tryz.underlying22 size_bk ?_
    | refine wpList_build_one rfl 127 (.tmp 5) rfl (.agg (tabV .u8 16 f)) rfl .u8 176 (fun i => if i < 16 then f i else 0) (built_ks f) ?_
    | (refine wpList_store_arr' rfl rfl 127 (.tmp 3) (.tmp 6) rfl (w.heap.size + 1 + 1) .u8 176 (fun i => if i < 16 then f i else 0) rfl rfl 127 _ (new3 _ _ _ _).2.2 size_ks tabV_size ?_
       intro w2 hA2 hG2
       have HA2 := Lib.hid hA2
       have HG2 := Lib.hid hG2
       clear hA2 hG2))
  go_loopw [4] (fun v wr => ∃ n : Nat, 1 ≤ n ∧ n ≤ 11 ∧ v = .int .i64 n ∧ Arr wr (w.heap.size + 1 + 1) 127 .u8 176 (kfa f n) ∧ Arr wr (w.heap.size + 1) 127 .u8 176 (fun _ => 0) ∧ Ext w wr) (fun v _ => 11 - (intOf v).toNat)
  case atStart =>
    obtain ⟨_, h1, _⟩ := new3 w (.cells (tabV .u8 16 f) 22) (.cells (tabV .u8 176 (fun _ => 0)) 127) (.cells (tabV .u8 176 (fun _ => 0)) 127)
    refine ⟨1, by omega, by omega, rfl, HA2.out.congr (fun i hi => ?_), grown_get HG2.out h1 (by simp), grown_new (((Ext.alloc _ _).tr (Ext.alloc _ _)).tr (Ext.alloc _ _)) HG2.out (fun g hg => by simp at hg; omega)⟩
    unfold kfa
    by_cases h : i < 16
    · rw [if_pos h, if_pos (by omega)]
      unfold kf
      rw [show i / 16 = 0 by omega, show i % 16 = i by omega, kys]
    · rw [if_neg h, if_neg (by omega)]
  case round =>
    obtain ⟨n, h1, hn, rfl, hA, hB, hx⟩ := hrel
    clear HA2 HG2
    by_cases hlt : n < 11
    · obtain ⟨wd, hwd⟩ : ∃ wd, wd = wr.drew := ⟨_, rfl⟩
      have xd : Ext wr wd := by rw [hwd]; exact Ext.drew _
      have q1 : IntKind.i64.wrap ((n : Int) - 1) = (n : Int) - 1 := IntWalk.i64_in _ (by omega)
      have t1 : ((n : Int) - 1).toNat = n - 1 := by omega
      have i1 : (n : Int) < 11 := by omega
      have i2 : (n : Int) - 1 < 11 := by omega
      have i3 : 0 ≤ (n : Int) - 1 := by omega
      have i4 : 1 ≤ (n : Int) := by omega
      have hpart : ∀ W, Ext wd W → W.rangeAt (w.heap.size + 1 + 1) ((n - 1) * 16) (tabV .u8 16 (kys f (n - 1))).toList := fun W hW => by
        have h := ((hA.ext xd).ext hW).part (off := (n - 1) * 16) (n := 16) (by omega)
        rw [tabV_congr (f' := kys f (n - 1)) (fun i hi => by
          unfold kfa kf
          rw [if_pos (by omega), show ((n - 1) * 16 + i) / 16 = n - 1 by omega, show ((n - 1) * 16 + i) % 16 = i by omega])] at h
        exact h
      have hpow : ∀ W, Calls Tryz.prog 109 #[.int .u8 2, .int .i64 ((n : Int) - 1)] W fun e w' => e = .returned (.int .u8 (gp 2 (n - 1) : Nat)) ∧ w' = W := fun W => by
        have h := power_c 2 (n - 1) (by decide) (by omega) W
        rw [show ((n - 1 : Nat) : Int) = (n : Int) - 1 by omega] at h
        exact h
      have HP := Lib.hid hpart
      have HPOW := Lib.hid hpow
      have HA := Lib.hid (hA.ext xd)
      have HB := Lib.hid (hB.ext xd)
      have HX := Lib.hid (hx.tr xd)
      have HWD := Lib.hid hwd
      clear hpart hpow
      clear hA hB hx xd hwd
      go_wp2_with fail
      refine wp_region_ord 9 (fun W => Ext wd W) (by kernel_rfl) (by kernel_rfl) (by decide) (by kernel_rfl) (by rw [HWD.out]; exact Ext.refl _) ?_
      simp only [List.take_succ_cons, List.take_zero, List.drop_succ_cons, List.drop_zero]
      repeat (refine wpTxt_step ?_ (fun W K hS hK => ?_) rfl ?_; rotate_left; (simp only [Act.put, List.setIfInBounds_toArray, List.set_cons_zero, List.set_cons_succ] at hK; go_simp; exact hK _ hS); simp only [Act.put, List.setIfInBounds_toArray, List.set_cons_zero, List.set_cons_succ])
      refine wpTxt_step (.agg (tabV .u8 16 (kys f (n - 1)))) (fun W K hS hK => wp_load_part 22 (.tmp 14) rfl (w.heap.size + 1 + 1) ((n - 1) * 16) rfl .u8 16 (kys f (n - 1)) 5 (HP.out W hS) Tryz.underlying22 size_bk (hK _ hS)) rfl ?_
      simp only [Act.put, List.setIfInBounds_toArray, List.set_cons_zero, List.set_cons_succ]
      repeat (refine wpTxt_step ?_ (fun W K hS hK => ?_) rfl ?_; rotate_left; (simp only [Act.put, List.setIfInBounds_toArray, List.set_cons_zero, List.set_cons_succ] at hK; go_simp; exact hK _ hS); simp only [Act.put, List.setIfInBounds_toArray, List.set_cons_zero, List.set_cons_succ])
      refine wpTxt_step ?_ (fun W K hS hK => ?_) rfl ?_
      rotate_left
      · simp only [Act.put, List.setIfInBounds_toArray, List.set_cons_zero, List.set_cons_succ] at hK
        go_simp
        refine (HPOW.out _).mono ?_
        rintro e W' ⟨rfl, rfl⟩
        exact hK _ hS
      simp only [Act.put, List.setIfInBounds_toArray, List.set_cons_zero, List.set_cons_succ]
      refine wpTxt_step ?_ (fun W K hS hK => ?_) rfl ?_
      rotate_left
      · simp only [Act.put, List.setIfInBounds_toArray, List.set_cons_zero, List.set_cons_succ] at hK
        go_simp
        refine (next_c (kys f (n - 1)) (kys_byt HF.out _) (gp 2 (n - 1)) (gp_lt (by decide) _) _).mono ?_
        rintro e W' ⟨rfl, hx'⟩
        exact hK _ (hS.tr hx')
      simp only [Act.put, List.setIfInBounds_toArray, List.set_cons_zero, List.set_cons_succ]
      refine wpTxt_nil ?_
      intro W hS
      have HA3 := Lib.hid (HA.out.ext hS)
      have HB3 := Lib.hid (HB.out.ext hS)
      have HX3 := Lib.hid (HX.out.tr hS)
      clear hS HA HB HX HP HPOW
      go_wp2_with (refine wpList_store_part rfl rfl 22 (.tmp 20) (.tmp 19) rfl (w.heap.size + 1 + 1) (n * 16) .u8 16 (nx (kys f (n - 1)) (gp 2 (n - 1))) rfl rfl 127 176 (kfa f n) HA3.out (by omega) size_bk ?_
                   intro w4 hA4 hG4)
      refine ⟨⟨n + 1, by omega, by omega, by go_num, hA4.congr (fun j hj => ?_), grown_get hG4 HB3.out (by simp), grown_new HX3.out hG4 (fun g hg => by simp at hg; omega)⟩, ?_⟩
      · have hk : kys f n = nx (kys f (n - 1)) (gp 2 (n - 1)) := by
          obtain ⟨m, rfl⟩ : ∃ m, n = m + 1 := ⟨n - 1, by omega⟩
          rfl
        rw [← hk]
        unfold kfa kf
        by_cases h : n * 16 ≤ j ∧ j < n * 16 + 16
        · rw [if_pos h, if_pos (by omega), show j / 16 = n by omega, show j % 16 = j - n * 16 by omega]
        · rw [if_neg h]
          by_cases h2 : j / 16 < n
          · rw [if_pos h2, if_pos (by omega)]
          · rw [if_neg h2, if_neg (by omega)]
      · simp only [intOf]
        omega
    · have e11 : n = 11 := by omega
      subst e11
      have HA := Lib.hid (hA.congr (f' := kf f) (fun j hj => by unfold kfa; rw [if_pos (by omega)]))
      have HB := Lib.hid hB
      have HX := Lib.hid hx
      clear hA hB hx
      go_wp2_with (first
        | refine wpList_load_row rfl 127 (.tmp 3) rfl (w.heap.size + 1 + 1) rfl 127 (tabV .u8 176 (kf f)) (0, 0) _ HA.out Tryz.underlying127 rfl (by rw [tabV_size]; exact size_ks) ?_
        | (refine wpList_store_arr' rfl rfl 127 (.tmp 2) (.tmp 21) rfl (w.heap.size + 1) .u8 176 (kf f) rfl rfl 127 _ HB.out size_ks tabV_size ?_; intro w5 hA5 hG5))
      refine bodyPost_ret (v := .agg (tabV .u8 176 (kf f))) ?_ rfl ⟨rfl, grown_new HX.out hG5 (fun g hg => by simp at hg; omega)⟩
      exact results_cell_row rfl _ _ _ _ _ _ _ rfl hA5 Tryz.underlying127 rfl (by rw [tabV_size]; exact size_ks)
end Go.Proofs.YtagegigffohcbaaGreatDoor

namespace Go.Proofs.YtagegigffohcbaaGreatDoor
open Go.RowKit

theorem tab_b1 : tabV .u8 4 b1 = #[.int .u8 2, .int .u8 3, .int .u8 1, .int .u8 1] := rfl
theorem tab_b2 : tabV .u8 4 b2 = #[.int .u8 14, .int .u8 11, .int .u8 13, .int .u8 9] := rfl
set_option maxRecDepth 100000 in
set_option maxHeartbeats 2000000 in
theorem round_c (f k : Bk) (hf : Byt f) (hk : Byt k) (last : Bool) (w : World) :
    Calls Tryz.prog 107 #[.agg (tabV .u8 16 f), .agg (tabV .u8 16 k), .bool last] w fun e w' => e = .returned (.agg (tabV .u8 16 (rnd f k last))) ∧ Ext w w' := by
  have HF := Lib.hid hf
  have HK := Lib.hid hk
  have hm := fun W => mixed_c b1 (mv 1 (ea sb f)) b1_lt (mv_byt 1 (ea_sb hf)) W
  rw [tab_b1] at hm
  have HM := Lib.hid hm
  obtain ⟨h0, h1, h2⟩ := new3 w (.cells (tabV .u8 16 f) 22) (.cells (tabV .u8 16 k) 22) (.cells (tabV .u8 16 (fun _ => 0)) 22)
  have hx0 := ((Ext.alloc w (.cells (tabV .u8 16 f) 22)).tr (Ext.alloc _ (.cells (tabV .u8 16 k) 22))).tr (Ext.alloc _ (.cells (tabV .u8 16 (fun _ => 0)) 22))
  have H0 := Lib.hid (show Arr _ w.heap.size 22 .u8 16 f from h0)
  have H1 := Lib.hid (show Arr _ (w.heap.size + 1) 22 .u8 16 k from h1)
  have H2 := Lib.hid (show Arr _ (w.heap.size + 1 + 1) 22 .u8 16 (fun _ => 0) from h2)
  have HX0 := Lib.hid hx0
  clear hf hk hm h0 h1 h2 hx0
  go_enter Tryz.func107, Tryz.ntmps107
  go_wp2_with (refine wpList_load_arr rfl 22 (.tmp 3) rfl w.heap.size rfl 22 .u8 16 f _ H0.out Tryz.underlying22 size_bk ?_)
  refine (each_c _ sb byFn_sub f HF.out _).mono ?_
  rintro e w1 ⟨rfl, hx1⟩
  have H0 := Lib.hid (H0.out.ext hx1)
  have H1 := Lib.hid (H1.out.ext hx1)
  have H2 := Lib.hid (H2.out.ext hx1)
  have HX := Lib.hid (HX0.out.tr hx1)
  clear hx1
  go_wp2_with fail
  refine (moved_c 1 (.inl rfl) (ea sb f) (ea_sb HF.out) _).mono ?_
  rintro e w2 ⟨rfl, hx2⟩
  have H0 := Lib.hid (H0.out.ext hx2)
  have H1 := Lib.hid (H1.out.ext hx2)
  have H2 := Lib.hid (H2.out.ext hx2)
  have HX := Lib.hid (HX.out.tr hx2)
  clear hx2
  have tail : ∀ (g : Bk), Byt g → True := fun _ _ => trivial
  clear tail
  cases last with
  | true =>
    go_wp2_with (first
      | (refine wpList_store_arr' rfl rfl 22 (.tmp 3) (.tmp 9) rfl w.heap.size .u8 16 (mv 1 (ea sb f)) rfl rfl 22 _ H0.out size_bk tabV_size ?_
         intro w3 hA3 hG3
         have HA3 := Lib.hid hA3
         have HB3 := Lib.hid (show Arr w3 (w.heap.size + 1) 22 .u8 16 k from grown_get hG3 H1.out (by simp))
         have HC3 := Lib.hid (show Arr w3 (w.heap.size + 1 + 1) 22 .u8 16 (fun _ => 0) from grown_get hG3 H2.out (by simp; omega))
         have HX3 := Lib.hid (grown_new HX.out hG3 (fun g hg => by simp at hg; omega))
         clear hA3 hG3)
      | refine wpList_load_arr rfl 22 (.tmp 3) rfl w.heap.size rfl 22 .u8 16 (mv 1 (ea sb f)) _ HA3.out Tryz.underlying22 size_bk ?_
      | refine wpList_load_arr rfl 22 (.tmp 4) rfl (w.heap.size + 1) rfl 22 .u8 16 k _ HB3.out Tryz.underlying22 size_bk ?_)
    refine (xor_c (mv 1 (ea sb f)) k (mv_byt 1 (ea_sb HF.out)) HK.out _).mono ?_
    rintro e w4 ⟨rfl, hx4⟩
    have HC4 := Lib.hid (HC3.out.ext hx4)
    have HX4 := Lib.hid (HX3.out.tr hx4)
    clear hx4
    go_wp2_with (refine wpList_store_arr' rfl rfl 22 (.tmp 6) (.tmp 17) rfl (w.heap.size + 1 + 1) .u8 16 (xo (mv 1 (ea sb f)) k) rfl rfl 22 _ HC4.out size_bk tabV_size ?_; intro w5 hA5 hG5)
    refine bodyPost_ret (v := .agg (tabV .u8 16 (xo (mv 1 (ea sb f)) k))) ?_ rfl ⟨rfl, grown_new HX4.out hG5 (fun g hg => by simp at hg; omega)⟩
    exact results_cell_row rfl _ _ _ _ _ _ _ rfl hA5 Tryz.underlying22 rfl (by rw [tabV_size]; exact size_bk)
  | false =>
    go_wp2_with (first
      | (refine wpList_store_arr' rfl rfl 22 (.tmp 3) (.tmp 9) rfl w.heap.size .u8 16 (mv 1 (ea sb f)) rfl rfl 22 _ H0.out size_bk tabV_size ?_
         intro w3 hA3 hG3
         have HA3 := Lib.hid hA3
         have HB3 := Lib.hid (show Arr w3 (w.heap.size + 1) 22 .u8 16 k from grown_get hG3 H1.out (by simp))
         have HC3 := Lib.hid (show Arr w3 (w.heap.size + 1 + 1) 22 .u8 16 (fun _ => 0) from grown_get hG3 H2.out (by simp; omega))
         have HX3 := Lib.hid (grown_new HX.out hG3 (fun g hg => by simp at hg; omega))
         clear hA3 hG3)
      | refine wpList_load_arr rfl 22 (.tmp 3) rfl w.heap.size rfl 22 .u8 16 (mv 1 (ea sb f)) _ HA3.out Tryz.underlying22 size_bk ?_)
    refine (HM.out _).mono ?_
    rintro e w4 ⟨rfl, hx4⟩
    have HA4 := Lib.hid (HA3.out.ext hx4)
    have HB4 := Lib.hid (HB3.out.ext hx4)
    have HC4 := Lib.hid (HC3.out.ext hx4)
    have HX4 := Lib.hid (HX3.out.tr hx4)
    clear hx4
    go_wp2_with (first
      | (refine wpList_store_arr' rfl rfl 22 (.tmp 3) (.tmp 14) rfl w.heap.size .u8 16 (mx b1 (mv 1 (ea sb f))) rfl rfl 22 _ HA4.out size_bk tabV_size ?_
         intro w5 hA5 hG5
         have HA5 := Lib.hid hA5
         have HB5 := Lib.hid (show Arr w5 (w.heap.size + 1) 22 .u8 16 k from grown_get hG5 HB4.out (by simp))
         have HC5 := Lib.hid (show Arr w5 (w.heap.size + 1 + 1) 22 .u8 16 (fun _ => 0) from grown_get hG5 HC4.out (by simp; omega))
         have HX5 := Lib.hid (grown_new HX4.out hG5 (fun g hg => by simp at hg; omega))
         clear hA5 hG5)
      | refine wpList_load_arr rfl 22 (.tmp 3) rfl w.heap.size rfl 22 .u8 16 (mx b1 (mv 1 (ea sb f))) _ HA5.out Tryz.underlying22 size_bk ?_
      | refine wpList_load_arr rfl 22 (.tmp 4) rfl (w.heap.size + 1) rfl 22 .u8 16 k _ HB5.out Tryz.underlying22 size_bk ?_)
    refine (xor_c (mx b1 (mv 1 (ea sb f))) k (mx_byt b1_lt (mv_byt 1 (ea_sb HF.out))) HK.out _).mono ?_
    rintro e w6 ⟨rfl, hx6⟩
    have HC6 := Lib.hid (HC5.out.ext hx6)
    have HX6 := Lib.hid (HX5.out.tr hx6)
    clear hx6
    go_wp2_with (refine wpList_store_arr' rfl rfl 22 (.tmp 6) (.tmp 17) rfl (w.heap.size + 1 + 1) .u8 16 (xo (mx b1 (mv 1 (ea sb f))) k) rfl rfl 22 _ HC6.out size_bk tabV_size ?_; intro w7 hA7 hG7)
    refine bodyPost_ret (v := .agg (tabV .u8 16 (xo (mx b1 (mv 1 (ea sb f))) k))) ?_ rfl ⟨rfl, grown_new HX6.out hG7 (fun g hg => by simp at hg; omega)⟩
    exact results_cell_row rfl _ _ _ _ _ _ _ rfl hA7 Tryz.underlying22 rfl (by rw [tabV_size]; exact size_bk)
end Go.Proofs.YtagegigffohcbaaGreatDoor

namespace Go.Proofs.YtagegigffohcbaaGreatDoor
open Go.RowKit


theorem int_eq10 (n : Nat) : ((n : Int) == 10) = (n == 10) := by
  by_cases h : n = 10
  · subst h; rfl
  · rw [beq_eq_false_iff_ne.2 h, beq_eq_false_iff_ne.2 (by omega)]
/-- the round key n lies in its part -/
theorem key_part {W : World} {g : Nat} {f : Bk} (h : Arr W g 127 .u8 176 (kf f)) {n : Nat} (hn : n < 11) : W.rangeAt g (n * 16) (tabV .u8 16 (kys f n)).toList := by
  have h := h.part (off := n * 16) (n := 16) (by omega)
  rw [tabV_congr (f' := kys f n) (fun i hi => by
    unfold kf
    rw [show (n * 16 + i) / 16 = n by omega, show (n * 16 + i) % 16 = i by omega])] at h
  exact h
theorem key_part0 {W : World} {g : Nat} {f : Bk} (h : Arr W g 127 .u8 176 (kf f)) : W.rangeAt g 0 (tabV .u8 16 f).toList := key_part h (n := 0) (by decide)
theorem wpList_load_pt {P : Program} {ops : Array Oper} {rest : List Oper} {o : Oper} {a : Act} {w : World} {Q : Exit → Act → World → Prop} (hgd : o.guard = none) (ty : TypeId) (x : Operand) (ho : o.op = .load ty x)
    (g off : Nat) (hx : a.eval x = .pointer (some ⟨g, off, none⟩)) (k : IntKind) (n : Nat) (f : Nat → Nat) (e : TypeId) (hg : w.rangeAt g off (tabV k n f).toList) (hu : P.underlying ty = some (.array n e)) (hz : (P.info? ty).map (·.size) = some n)
    (h : wpList P ops Q rest (a.put o.dst (.agg (tabV k n f))) w) : wpList P ops Q (o :: rest) a w :=
  wpList_plain hgd fun _ hK => wp_load_part ty x ho g off hx k n f e hg hu hz (hK _ _ h)
set_option maxRecDepth 100000 in
set_option maxHeartbeats 4000000 in
theorem encrypt_c (k b : Bk) (hk : Byt k) (hb : Byt b) (w : World) :
    Calls Tryz.prog 103 #[.agg (tabV .u8 16 k), .agg (tabV .u8 16 b)] w fun e w' => e = .returned (.agg (tabV .u8 16 (enc k b))) ∧ Ext w w' := by
  have HK := Lib.hid hk
  have HB := Lib.hid hb
  obtain ⟨h0, h1, h2⟩ := new3 w (.cells (tabV .u8 16 k) 22) (.cells (tabV .u8 16 b) 22) (.cells (tabV .u8 16 (fun _ => 0)) 22)
  have hx0 := ((Ext.alloc w (.cells (tabV .u8 16 k) 22)).tr (Ext.alloc _ (.cells (tabV .u8 16 b) 22))).tr (Ext.alloc _ (.cells (tabV .u8 16 (fun _ => 0)) 22))
  have H0 := Lib.hid (show Arr _ w.heap.size 22 .u8 16 k from h0)
  have H1 := Lib.hid (show Arr _ (w.heap.size + 1) 22 .u8 16 b from h1)
  have H2 := Lib.hid (show Arr _ (w.heap.size + 1 + 1) 22 .u8 16 (fun _ => 0) from h2)
  have HX0 := Lib.hid hx0
  have zk := zero_ks
  clear hk hb h0 h1 h2 hx0
  go_enter Tryz.func103, Tryz.ntmps103
  go_wp2_with (refine wpList_load_arr rfl 22 (.tmp 2) rfl w.heap.size rfl 22 .u8 16 k _ H0.out Tryz.underlying22 size_bk ?_)
  refine (keys_c k HK.out _).mono ?_
  rintro e w1 ⟨rfl, hx1⟩
  have HB1 := Lib.hid (H1.out.ext hx1)
  have HC1 := Lib.hid (H2.out.ext hx1)
  have HX1 := Lib.hid (HX0.out.tr hx1)
  clear hx1
  have HGL := Lib.hid (show w.heap.size + 1 + 1 < w1.heap.size from HC1.out.lt)
  have HZ := Lib.hid (Arr.new w1 127 .u8 176 (fun _ => 0))
  go_wp2_with (first
    | (refine wpList_store_arr' rfl rfl 127 (.tmp 5) (.tmp 8) rfl w1.heap.size .u8 176 (kf k) rfl rfl 127 _ HZ.out size_ks tabV_size ?_
       intro w2 hA2 hG2
       have hgl := HGL.out
       have HK2 := Lib.hid hA2
       have HB2 := Lib.hid (show Arr w2 (w.heap.size + 1) 22 .u8 16 b from grown_get hG2 (HB1.out.ext (Ext.alloc _ _)) (by simp; omega))
       have HC2 := Lib.hid (show Arr w2 (w.heap.size + 1 + 1) 22 .u8 16 (fun _ => 0) from grown_get hG2 (HC1.out.ext (Ext.alloc _ _)) (by simp; omega))
       have HX2 := Lib.hid (HX1.out.tr (grown_new (Ext.alloc _ _) hG2 (fun g hg => by simp at hg; omega)))
       clear hA2 hG2 hgl)
    | refine wpList_load_arr rfl 22 (.tmp 3) rfl (w.heap.size + 1) rfl 22 .u8 16 b _ HB2.out Tryz.underlying22 size_bk ?_
    | refine wpList_load_pt rfl 22 (.tmp 10) rfl w1.heap.size 0 rfl .u8 16 k _ (key_part0 HK2.out) Tryz.underlying22 size_bk ?_)
  refine (xor_c b k HB.out HK.out _).mono ?_
  rintro e w3 ⟨rfl, hx3⟩
  have HK3 := Lib.hid (HK2.out.ext hx3)
  have HB3 := Lib.hid (HB2.out.ext hx3)
  have HC3 := Lib.hid (HC2.out.ext hx3)
  have HX3 := Lib.hid (HX2.out.tr hx3)
  clear hx3 HB1 HC1 HX1 HB2 HC2 HX2 HK2 HZ
  go_wp2_with (refine wpList_store_arr' rfl rfl 22 (.tmp 3) (.tmp 12) rfl (w.heap.size + 1) .u8 16 (xo b k) rfl rfl 22 _ HB3.out size_bk tabV_size ?_
               intro w4 hA4 hG4
               have hgl := HGL.out
               have HB4 := Lib.hid (show Arr w4 (w.heap.size + 1) 22 .u8 16 (est k b 0) from hA4)
               have HK4 := Lib.hid (show Arr w4 w1.heap.size 127 .u8 176 (kf k) from grown_get hG4 HK3.out (by simp; omega))
               have HC4 := Lib.hid (show Arr w4 (w.heap.size + 1 + 1) 22 .u8 16 (fun _ => 0) from grown_get hG4 HC3.out (by simp))
               have HX4 := Lib.hid (grown_new HX3.out hG4 (fun g hg => by simp at hg; omega))
               clear hA4 hG4 hgl)
  obtain ⟨gk, hgk⟩ : ∃ gk, gk = w1.heap.size := ⟨_, rfl⟩
  rw [← hgk] at HK4 HGL ⊢
  clear hgk HK3 HB3 HC3 HX3
  go_loopw [6] (fun v wr => ∃ n : Nat, 1 ≤ n ∧ n ≤ 11 ∧ v = .int .i64 n ∧ Arr wr (w.heap.size + 1) 22 .u8 16 (est k b (n - 1)) ∧ Arr wr gk 127 .u8 176 (kf k) ∧ Arr wr (w.heap.size + 1 + 1) 22 .u8 16 (fun _ => 0) ∧ Ext w wr) (fun v _ => 11 - (intOf v).toNat)
  case atStart => exact ⟨1, by omega, by omega, rfl, HB4.out, HK4.out, HC4.out, HX4.out⟩
  case round =>
    obtain ⟨n, h1, hn, rfl, hA, hKy, hC, hx⟩ := hrel
    by_cases hlt : n < 11
    · obtain ⟨wd, hwd⟩ : ∃ wd, wd = wr.drew := ⟨_, rfl⟩
      have xd : Ext wr wd := by rw [hwd]; exact Ext.drew _
      have i1 : (n : Int) < 11 := by omega
      have HA := Lib.hid (hA.ext xd)
      have HKY := Lib.hid (hKy.ext xd)
      have HC := Lib.hid (hC.ext xd)
      have HX := Lib.hid (hx.tr xd)
      have HWD := Lib.hid hwd
      clear hA hKy hC hx xd hwd
      go_wp2_with fail
      refine wp_region_ord 7 (fun W => Ext wd W) (by kernel_rfl) (by kernel_rfl) (by decide) (by kernel_rfl) (by rw [HWD.out]; exact Ext.refl _) ?_
      simp only [List.take_succ_cons, List.take_zero, List.drop_succ_cons, List.drop_zero]
      refine wpTxt_step (.agg (tabV .u8 16 (est k b (n - 1)))) (fun W K hS hK => wp_load_arr 22 (.tmp 3) rfl (w.heap.size + 1) rfl .u8 16 (est k b (n - 1)) _ _ (HA.out.ext hS) Tryz.underlying22 size_bk (hK _ hS)) rfl ?_
      simp only [Act.put, List.setIfInBounds_toArray, List.set_cons_zero, List.set_cons_succ]
      repeat (refine wpTxt_step ?_ (fun W K hS hK => ?_) rfl ?_; rotate_left; (simp only [Act.put, List.setIfInBounds_toArray, List.set_cons_zero, List.set_cons_succ] at hK; go_simp; exact hK _ hS); simp only [Act.put, List.setIfInBounds_toArray, List.set_cons_zero, List.set_cons_succ])
      refine wpTxt_step (.agg (tabV .u8 16 (kys k n))) (fun W K hS hK => wp_load_part 22 (.tmp 19) rfl gk (n * 16) rfl .u8 16 (kys k n) 5 (key_part (HKY.out.ext hS) hlt) Tryz.underlying22 size_bk (hK _ hS)) rfl ?_
      simp only [Act.put, List.setIfInBounds_toArray, List.set_cons_zero, List.set_cons_succ]
      repeat (refine wpTxt_step ?_ (fun W K hS hK => ?_) rfl ?_; rotate_left; (simp only [Act.put, List.setIfInBounds_toArray, List.set_cons_zero, List.set_cons_succ] at hK; go_simp; exact hK _ hS); simp only [Act.put, List.setIfInBounds_toArray, List.set_cons_zero, List.set_cons_succ])
      refine wpTxt_step ?_ (fun W K hS hK => ?_) rfl ?_
      rotate_left
      · simp only [Act.put, List.setIfInBounds_toArray, List.set_cons_zero, List.set_cons_succ] at hK
        go_simp
        refine (round_c (est k b (n - 1)) (kys k n) (est_byt HK.out HB.out _) (kys_byt HK.out _) ((n : Int) == 10) _).mono ?_
        rintro e W' ⟨rfl, hx'⟩
        exact hK _ (hS.tr hx')
      simp only [Act.put, List.setIfInBounds_toArray, List.set_cons_zero, List.set_cons_succ]
      refine wpTxt_nil ?_
      intro W hS
      have HA3 := Lib.hid (HA.out.ext hS)
      have HK3 := Lib.hid (HKY.out.ext hS)
      have HC3 := Lib.hid (HC.out.ext hS)
      have HX3 := Lib.hid (HX.out.tr hS)
      clear hS HA HKY HC HX
      go_wp2_with (refine wpList_store_arr' rfl rfl 22 (.tmp 3) (.tmp 23) rfl (w.heap.size + 1) .u8 16 (rnd (est k b (n - 1)) (kys k n) ((n : Int) == 10)) rfl rfl 22 _ HA3.out size_bk tabV_size ?_
                   intro w5 hA5 hG5)
      have hgl := HGL.out
      have e : rnd (est k b (n - 1)) (kys k n) ((n : Int) == 10) = est k b (n + 1 - 1) := by
        obtain ⟨m, rfl⟩ : ∃ m, n = m + 1 := ⟨n - 1, by omega⟩
        rw [Nat.add_sub_cancel, Nat.add_sub_cancel, est]
        congr 1
        exact int_eq10 _
      rw [e] at hA5
      refine ⟨⟨n + 1, by omega, by omega, by go_num, hA5, grown_get hG5 HK3.out (by simp; omega), grown_get hG5 HC3.out (by simp), grown_new HX3.out hG5 (fun g hg => by simp at hg; omega)⟩, ?_⟩
      simp only [intOf]
      omega
    · have e11 : n = 11 := by omega
      subst e11
      have HA := Lib.hid (show Arr wr (w.heap.size + 1) 22 .u8 16 (enc k b) from hA)
      have HC := Lib.hid hC
      have HX := Lib.hid hx
      clear hA hKy hC hx
      go_wp2_with (first
        | refine wpList_load_arr rfl 22 (.tmp 3) rfl (w.heap.size + 1) rfl 22 .u8 16 (enc k b) _ HA.out Tryz.underlying22 size_bk ?_
        | (refine wpList_store_arr' rfl rfl 22 (.tmp 4) (.tmp 24) rfl (w.heap.size + 1 + 1) .u8 16 (enc k b) rfl rfl 22 _ HC.out size_bk tabV_size ?_; intro w5 hA5 hG5))
      refine bodyPost_ret (v := .agg (tabV .u8 16 (enc k b))) ?_ rfl ⟨rfl, grown_new HX.out hG5 (fun g hg => by simp at hg; omega)⟩
      exact results_cell_row rfl _ _ _ _ _ _ _ rfl hA5 Tryz.underlying22 rfl (by rw [tabV_size]; exact size_bk)

end Go.Proofs.YtagegigffohcbaaGreatDoor

namespace Go.Proofs.YtagegigffohcbaaGreatDoor
open Go.RowKit

/-- a part of an array by value -/
theorem tab_extract {k : IntKind} {N n off : Nat} {F : Nat → Nat} (h : off + n ≤ N) : (tabV k N F).extract off (off + n) = tabV k n (fun j => F (off + j)) := by
  apply tabV_ext
  · rw [Array.size_extract, tabV_size]; omega
  · intro i hi
    rw [Array.getElem?_extract, tabV_size, if_pos (by omega), tabV_get (by omega)]
/-- the same values -/
def eqb (n : Nat) (f g : Nat → Nat) : Bool := (List.range n).all fun i => f i == g i
theorem eqb_true {n : Nat} {f g : Nat → Nat} : eqb n f g = true ↔ ∀ i, i < n → f i = g i := by
  unfold eqb
  rw [List.all_eq_true]
  exact ⟨fun h i hi => by simpa using h i (List.mem_range.2 hi), fun h i hi => by simpa using h i (List.mem_range.1 hi)⟩
theorem eqb_false {n : Nat} {f g : Nat → Nat} (h : ¬ ∀ i, i < n → f i = g i) : eqb n f g = false := by
  cases hq : eqb n f g with
  | false => rfl
  | true => exact absurd (eqb_true.1 hq) h
theorem run_eqItems_dec {P : Program} {e : TypeId} {n : Nat} {k : IntKind} (he : P.underlying e = some (.int k)) (f f' : Nat → Nat) (d : Nat) (w : World) : ∀ is : List Nat, (∀ i ∈ is, i < n) →
    (Op.eqItems (d + 1) e 1 (tabV k n f) (tabV k n f') is).run P w = .ok (is.all fun i => f i == f' i) w
  | [], _ => by simp [Op.eqItems]
  | i :: is, h => by
    have hi := h i (by simp)
    have ih := run_eqItems_dec he f f' d w is (fun j hj => h j (by simp [hj]))
    simp only [Op.eqItems, Sem.run_bind, run_part_tab he f i hi, run_part_tab he f' i hi, Result.andThen_ok, run_equalIn_int w d e k k _ _ he, List.all_cons]
    by_cases hq : f i = f' i
    · simp only [hq, beq_self_eq_true, Bool.true_and]
      simpa using ih
    · have h1 : ((f i : Nat) : Int) ≠ ((f' i : Nat) : Int) := by omega
      rw [show (f i == f' i) = false from beq_eq_false_iff_ne.2 hq]
      simp [h1]
theorem run_equalIn_dec {P : Program} {t e : TypeId} {n : Nat} {k : IntKind} (hu : P.underlying t = some (.array n e)) (he : P.underlying e = some (.int k)) (hs : (P.info? e).map (·.size) = some 1) (hc : P.cellsOf e = 1) (f f' : Nat → Nat) (d : Nat) (w : World) :
    (Op.equalIn (d + 2) t (.agg (tabV k n f)) (.agg (tabV k n f'))).run P w = .ok (eqb n f f') w := by
  cases hq : P.info? e with
  | none => simp [hq] at hs
  | some ie => rw [run_equalIn_array w (d + 1) _ _ hu hq, hc, run_eqItems_dec he f f' d w _ (fun i hi => List.mem_range.1 hi)]; rfl
theorem wp_eql_dec {P : Program} {o : Oper} {a : Act} {w : World} {K : Act → World → Prop} {Q : Exit → Act → World → Prop} (t yt : TypeId) (x y : Operand) (ho : o.op = .binOp .eql t x y yt) (k : IntKind) (n : Nat) (f f' : Nat → Nat) (hx : a.eval x = .agg (tabV k n f)) (hy : a.eval y = .agg (tabV k n f'))
    (e : TypeId) (hu : P.underlying t = some (.array n e)) (he : P.underlying e = some (.int k)) (hs : (P.info? e).map (·.size) = some 1) (hc : P.cellsOf e = 1) (hm : P.eqGuardType P.depth t = false)
    (h : K (a.put o.dst (.bool (eqb n f f'))) w) : o.wp P a w K Q := by
  unfold Oper.wp execOp
  simp only [ho, hx, hy, Sem.run_bind, run_eqGuard_agg w .eql t x y _ _ hm, Result.andThen_ok, run_eql_struct, run_equalIn_dec hu he hs hc f f' 9998 w, Sem.run_pure]
  exact h
theorem wp_neq_dec {P : Program} {o : Oper} {a : Act} {w : World} {K : Act → World → Prop} {Q : Exit → Act → World → Prop} (t yt : TypeId) (x y : Operand) (ho : o.op = .binOp .neq t x y yt) (k : IntKind) (n : Nat) (f f' : Nat → Nat) (hx : a.eval x = .agg (tabV k n f)) (hy : a.eval y = .agg (tabV k n f'))
    (e : TypeId) (hu : P.underlying t = some (.array n e)) (he : P.underlying e = some (.int k)) (hs : (P.info? e).map (·.size) = some 1) (hc : P.cellsOf e = 1) (hm : P.eqGuardType P.depth t = false)
    (h : K (a.put o.dst (.bool (!eqb n f f'))) w) : o.wp P a w K Q := by
  unfold Oper.wp execOp
  simp only [ho, hx, hy, Sem.run_bind, run_eqGuard_agg w .neq t x y _ _ hm, Result.andThen_ok, run_neq_struct, run_equalIn_dec hu he hs hc f f' 9998 w, Sem.run_pure]
  exact h
/-- arrays of arrays that hold the same -/
theorem run_eqItems2 {P : Program} {t e : TypeId} {m n N : Nat} {k : IntKind} (hu : P.underlying t = some (.array n e)) (he : P.underlying e = some (.int k)) (hs : (P.info? e).map (·.size) = some 1) (hst : (P.info? t).map (·.size) = some n) (hc : P.cellsOf e = 1)
    (f f' : Nat → Nat) (d : Nat) (w : World) (hf : ∀ i, i < N → f i = f' i) (hN : N = m * n) : ∀ is : List Nat, (∀ i ∈ is, i < m) → (Op.eqItems (d + 2) t n (tabV k N f) (tabV k N f') is).run P w = .ok true w
  | [], _ => by simp [Op.eqItems]
  | i :: is, h => by
    have hi := h i (by simp)
    have hlt : i * n + n ≤ N := by
      subst hN
      calc i * n + n = (i + 1) * n := by rw [Nat.add_mul, Nat.one_mul]
        _ ≤ m * n := Nat.mul_le_mul_right _ hi
    have ih := run_eqItems2 hu he hs hst hc f f' d w hf hN is (fun j hj => h j (by simp [hj]))
    have hp : ∀ g : Nat → Nat, (part t (tabV k N g) (i * n)).run P w = .ok (.agg (tabV k n (fun j => g (i * n + j)))) w := by
      intro g
      cases hq : P.info? t with
      | none => simp [hq] at hst
      | some it =>
        have hsz : it.size = n := by simpa [hq] using hst
        simp [part, isAgg, Sem.run_bind, run_underlying hu, sizeOf, typeInfo, hq, hsz, tab_extract hlt]
    have he1 : eqb n (fun j => f (i * n + j)) (fun j => f' (i * n + j)) = true := eqb_true.2 fun j hj => hf _ (by omega)
    simp only [Op.eqItems, Sem.run_bind, hp, Result.andThen_ok, run_equalIn_dec hu he hs hc _ _ d w, he1]
    simpa using ih
theorem wp_eql_tab2 {P : Program} {o : Oper} {a : Act} {w : World} {K : Act → World → Prop} {Q : Exit → Act → World → Prop} (T yt : TypeId) (x y : Operand) (ho : o.op = .binOp .eql T x y yt) (k : IntKind) (m n N : Nat) (f f' : Nat → Nat) (hx : a.eval x = .agg (tabV k N f)) (hy : a.eval y = .agg (tabV k N f'))
    (t e : TypeId) (hT : P.underlying T = some (.array m t)) (hu : P.underlying t = some (.array n e)) (he : P.underlying e = some (.int k)) (hs : (P.info? e).map (·.size) = some 1) (hst : (P.info? t).map (·.size) = some n) (hc : P.cellsOf e = 1) (hct : P.cellsOf t = n) (hm : P.eqGuardType P.depth T = false)
    (hf : ∀ i, i < N → f i = f' i) (hN : N = m * n) (h : K (a.put o.dst (.bool true)) w) : o.wp P a w K Q := by
  have hrun : (Op.equalIn 10000 T (.agg (tabV k N f)) (.agg (tabV k N f'))).run P w = .ok true w := by
    cases hq : P.info? t with
    | none => simp [hq] at hst
    | some it => rw [show (10000 : Nat) = 9999 + 1 from rfl, run_equalIn_array w 9999 _ _ hT hq, hct, show (9999 : Nat) = 9997 + 2 from rfl, run_eqItems2 hu he hs hst hc f f' 9997 w hf hN _ (fun i hi => List.mem_range.1 hi)]
  unfold Oper.wp execOp
  simp only [ho, hx, hy, Sem.run_bind, run_eqGuard_agg w .eql T x y _ _ hm, Result.andThen_ok, run_eql_struct, hrun, Sem.run_pure]
  exact h
end Go.Proofs.YtagegigffohcbaaGreatDoor
