/-
  The package's products, inverses and substitutions of bytes.
-/
import Derived.Test.YtdmfajcbbolfiaaFldM
import Derived.Laws.BitsAllLaws
import Derived.IntWalk
import Derived.Lib.Tables
namespace Go.Proofs.Ytdmfajcbbolfiaa
open Go.RowKit

theorem db_ok : ∀ a < 256, a * 2 % 256 ^^^ a / 128 * 27 = gm 2 a := by decide +kernel
theorem gm_step8 : ∀ a < 256, ∀ k < 8, gm a (2 ^ k) = 2 ^ k * (a % 2) ^^^ gm (a / 2) (gm 2 (2 ^ k)) := by decide +kernel
theorem gm_step {a b : Nat} (ha : a < 256) (hb : b < 256) : gm a b = b * (a % 2) ^^^ gm (a / 2) (gm 2 b) := by
  refine lin_ext (g := fun b => gm a b) (h := fun b => b * (a % 2) ^^^ gm (a / 2) (gm 2 b)) (fun x y => gm_lin a x y) (fun x y => ?_) (fun k hk => gm_step8 a ha k hk) b hb
  simp only [gm_lin]
  rcases (show a % 2 = 0 ∨ a % 2 = 1 by omega) with h | h <;> rw [h]
  · simp
  · simp only [Nat.mul_one]
    exact xor4 _ _ _ _
theorem gm_zero1 : ∀ b < 256, gm 0 b = 0 := by decide +kernel
theorem xor8 {a b : Nat} (ha : a < 256) (hb : b < 256) : a ^^^ b < 256 := Nat.xor_lt_two_pow (n := 8) ha hb

set_option maxRecDepth 100000 in
theorem double_c (a : Nat) (ha : a < 256) (w : World) : Calls Try.prog 47 #[.int .u8 a] w fun e w' => e = .returned (.int .u8 (gm 2 a : Nat)) ∧ w' = w := by
  go_enter Try.func47, Try.ntmps47
  go_wp2_with fail
  go_ret
  refine ⟨?_, rfl⟩
  show Ending.returned (Value.int .u8 (bits .xor .u8 ((a : Int) * 2 % 256) ((a : Int) / 128 * 27))) = _
  rw [show ((a : Int) * 2 % 256) = ((a * 2 % 256 : Nat) : Int) by omega, show (a : Int) / 128 * 27 = ((a / 128 * 27 : Nat) : Int) by omega, u8_xor_nat _ _ (by omega) (by omega), db_ok a ha]

theorem u8_and1 (a : Nat) (ha : a < 256) : bits .and .u8 (a : Int) 1 = ((a % 2 : Nat) : Int) := by
  rw [show (1 : Int) = ((1 : Nat) : Int) from rfl, u8_and_nat _ _ ha (by decide), Nat.and_one_is_mod]
set_option maxRecDepth 100000 in
theorem product_c (a b : Nat) (ha : a < 256) (hb : b < 256) (w : World) : Calls Try.prog 42 #[.int .u8 a, .int .u8 b] w fun e w' => e = .returned (.int .u8 (gm a b : Nat)) ∧ w' = w := by
  go_enter Try.func42, Try.ntmps42
  go_wp2_with fail
  go_loopw [0, 1, 4] (fun x y p wr => ∃ (x' y' p' : Nat), x = .int .u8 x' ∧ y = .int .u8 y' ∧ p = .int .u8 p' ∧ x' < 256 ∧ y' < 256 ∧ p' < 256 ∧ p' ^^^ gm x' y' = gm a b ∧ wr = w) (fun x _ _ _ => (intOf x).toNat)
  case atStart => exact ⟨a, b, 0, rfl, rfl, rfl, ha, hb, by decide, by simp, rfl⟩
  case round =>
    obtain ⟨x', y', p', rfl, rfl, rfl, hx, hy, hp, hrel, rfl⟩ := hrel
    by_cases h0 : x' = 0
    · subst h0
      have HR := Lib.hid hrel
      clear hrel
      go_wp2_with fail
      go_ret
      have h := HR.out
      rw [gm_zero1 _ hy, Nat.xor_zero] at h
      exact ⟨by rw [← h]; rfl, rfl⟩
    · have HR := Lib.hid hrel
      clear hrel
      have h1 : (0 : Int) < (x' : Int) := by omega
      have q1 := u8_and1 x' hx
      go_wp2_with fail
      refine (double_c _ hy _).mono ?_
      rintro e v ⟨rfl, rfl⟩
      go_wp2_with fail
      go_roundw
      case rel =>
        have hm : y' * (x' % 2) < 256 := by rcases (show x' % 2 = 0 ∨ x' % 2 = 1 by omega) with h | h <;> rw [h] <;> omega
        refine ⟨x' / 2, gm 2 y', p' ^^^ y' * (x' % 2), by rw [Int.natCast_ediv]; rfl, rfl, ?_, by omega, gm_lt (by decide) hy, xor8 hp hm, ?_, trivial⟩
        · have e1 : (y' : Int) * ((x' : Int) % 2) % 256 = ((y' * (x' % 2) : Nat) : Int) := by
            rw [show ((x' : Int) % 2) = ((x' % 2 : Nat) : Int) by omega, ← Int.natCast_mul]
            omega
          rw [e1, u8_xor_nat _ _ hp hm]
        · rw [← HR.out, gm_step hx hy, Nat.xor_assoc]
      case measure => simp [intOf]; omega

/-! ## lengths of numbers -/
theorem wrap64_in {n : Int} (h : -9223372036854775808 ≤ n ∧ n ≤ 9223372036854775807) : wrap64 n = n := by unfold wrap64; omega
def ln (x : Nat) : Nat := if x = 0 then 0 else x.log2 + 1
theorem len8_ok : ∀ x < 256, Lib.len8 (x : Nat) = ((ln x : Nat) : Int) := by decide +kernel
theorem ln_le : ∀ x < 256, ln x ≤ 8 := by decide +kernel
theorem ln_hi : ∀ x < 512, 256 ≤ x → ln x = 8 + ln (x / 256) := by decide +kernel
set_option maxRecDepth 100000 in
theorem len64_c (x : Nat) (hx : x < 512) (w : World) : Calls Try.prog 50 #[.int .u64 x] w fun e w' => e = .returned (.int .i64 (ln x : Nat)) ∧ w' = w := by
  go_enter Try.func50, Try.ntmps50
  have h1 : ¬ (4294967296 : Int) ≤ (x : Int) := by omega
  have h2 : ¬ (65536 : Int) ≤ (x : Int) := by omega
  by_cases h3 : 256 ≤ x
  · have h3' : (256 : Int) ≤ (x : Int) := by omega
    have h4 : (x : Int) / 256 ≤ 255 := by omega
    have h5 : 0 ≤ (x : Int) / 256 := by omega
    have h6 : (x : Int) / 256 % 256 = (x : Int) / 256 := by omega
    have q : Lib.len8 ((x : Int) / 256) = ((ln (x / 256) : Nat) : Int) := len8_ok (x / 256) (by omega)
    have q2 := ln_le (x / 256) (by omega)
    go_wp2_with fail
    go_ret
    refine ⟨?_, rfl⟩
    rw [ln_hi x hx h3]
    rfl
  · have h3' : ¬ (256 : Int) ≤ (x : Int) := by omega
    have h4 : (x : Int) ≤ 255 := by omega
    have h6 : (x : Int) % 256 = (x : Int) := by omega
    have q := len8_ok x (by omega)
    have q2 := ln_le x (by omega)
    go_wp2_with fail
    go_ret
    exact ⟨rfl, rfl⟩
set_option maxRecDepth 100000 in
theorem len_c (x : Nat) (hx : x < 512) (w : World) : Calls Try.prog 46 #[.int .u64 x] w fun e w' => e = .returned (.int .i64 (ln x : Nat)) ∧ w' = w := by
  go_enter Try.func46, Try.ntmps46
  go_wp2_with fail
  refine (len64_c x hx _).mono ?_
  rintro e v ⟨rfl, rfl⟩
  go_wp2_with fail
  go_ret
  exact ⟨rfl, rfl⟩

/-! ## inverses -/
def eu : Nat → Nat → Nat → Nat → Nat → Option Nat
  | 0, _, _, _, _ => none
  | f + 1, u, v, g, h =>
    if u ≤ 1 then some g
    else if ln u < ln v then
      if v ^^^ u * 2 ^ (ln v - ln u) < v ∧ h ^^^ g * 2 ^ (ln v - ln u) < 512 then eu f (v ^^^ u * 2 ^ (ln v - ln u)) u (h ^^^ g * 2 ^ (ln v - ln u)) g else none
    else
      if u ^^^ v * 2 ^ (ln u - ln v) < u ∧ g ^^^ h * 2 ^ (ln u - ln v) < 512 then eu f (u ^^^ v * 2 ^ (ln u - ln v)) v (g ^^^ h * 2 ^ (ln u - ln v)) h else none
theorem eu_ok : ∀ a < 256, a ≠ 0 → eu 30 a 283 1 0 = some (gi a) := by decide +kernel
theorem ln_9 : ∀ x < 512, ln x ≤ 9 := by decide +kernel
theorem shl_ok {x n : Nat} (hx : x < 512) (hn : n ≤ 9) : x * 2 ^ n < 262144 := by
  have h := Nat.pow_le_pow_right (n := 2) (by decide) hn
  calc x * 2 ^ n ≤ x * 2 ^ 9 := Nat.mul_le_mul_left _ h
    _ < 262144 := by omega
theorem sh_int {n : Nat} (y x : Nat) (hy : y < 512) (hx : x < 512) (hn : n ≤ 9) (m : Int) (hm : m.toNat = n) : bits .xor .u64 (y : Int) (IntKind.u64.wrap ((x : Int) * 2 ^ m.toNat)) = ((y ^^^ x * 2 ^ n : Nat) : Int) := by
  have h := shl_ok hx hn
  rw [hm, show ((x : Int) * 2 ^ n) = ((x * 2 ^ n : Nat) : Int) by push_cast; rfl, IntWalk.u64_in _ (by omega), u64_xor_nat _ _ (by omega) (by omega)]
set_option maxRecDepth 100000 in
theorem inverse_c (a : Nat) (ha : a < 256) (w : World) : Calls Try.prog 41 #[.int .u8 a] w fun e w' => e = .returned (.int .u8 (gi a : Nat)) ∧ w' = w := by
  by_cases h0 : a = 0
  · subst h0
    go_enter Try.func41, Try.ntmps41
    go_wp2_with fail
    go_ret
    exact ⟨by rw [gi_zero]; rfl, rfl⟩
  · have he := eu_ok a ha h0
    have h1 := beq_f (show (a : Int) ≠ 0 by omega)
    go_enter Try.func41, Try.ntmps41
    go_wp2_with fail
    go_loopw [3, 4, 5, 6] (fun tu tv tg th wr => ∃ (u v g h f : Nat), tu = .int .u64 u ∧ tv = .int .u64 v ∧ tg = .int .u64 g ∧ th = .int .u64 h ∧ u < 512 ∧ v < 512 ∧ g < 512 ∧ h < 512 ∧ eu f u v g h = some (gi a) ∧ wr = w) (fun tu tv _ _ _ => (intOf tu).toNat + (intOf tv).toNat)
    case atStart => exact ⟨a, 283, 1, 0, 30, rfl, rfl, rfl, rfl, by omega, by decide, by decide, by decide, he, rfl⟩
    case round =>
      obtain ⟨u, v, g, h, f, rfl, rfl, rfl, rfl, hu, hv, hg, hh, hf, rfl⟩ := hrel
      rcases f with _ | f
      · rw [eu] at hf; cases hf
      · rw [eu] at hf
        by_cases hle : u ≤ 1
        · rw [if_pos hle] at hf
          have HF := Lib.hid hf
          clear hf
          have t1 : ¬ (1 : Int) < (u : Int) := by omega
          go_wp2_with fail
          go_ret
          have h := HF.out
          injection h with h
          have hb := gi_lt a ha
          refine ⟨?_, rfl⟩
          show Ending.returned (Value.int .u8 ((g : Int) % 256)) = _
          rw [← h] at hb ⊢
          rw [show (g : Int) % 256 = (g : Int) by omega]
        · rw [if_neg hle] at hf
          have t1 : (1 : Int) < (u : Int) := by omega
          have l1 := ln_9 u hu
          have l2 := ln_9 v hv
          have HF := Lib.hid hf
          clear hf
          go_wp2_with fail
          refine (len_c u hu _).mono ?_
          rintro e w1 ⟨rfl, rfl⟩
          go_wp2_with fail
          refine (len_c v hv _).mono ?_
          rintro e w1 ⟨rfl, rfl⟩
          obtain ⟨p, hp⟩ : ∃ p, p = ln u := ⟨_, rfl⟩
          obtain ⟨q, hq⟩ : ∃ q, q = ln v := ⟨_, rfl⟩
          rw [← hp, ← hq] at HF
          rw [← hp] at l1 ⊢
          rw [← hq] at l2 ⊢
          clear hp hq
          by_cases hlt : p < q
          · have hf := HF.out
            rw [if_pos hlt] at hf
            split at hf
            · rename_i hc
              obtain ⟨hc1, hc2⟩ := hc
              have HF := Lib.hid hf
              clear hf
              have t2 : (p : Int) - (q : Int) < 0 := by omega
              have t3 : wrap64 ((p : Int) - (q : Int)) = (p : Int) - (q : Int) := wrap64_in (by omega)
              go_wp2_with fail
              have e1 := sh_int (n := q - p) v u hv hu (by omega) (-((p : Int) - (q : Int))) (by omega)
              have e2 := sh_int (n := q - p) h g hh hg (by omega) (-((p : Int) - (q : Int))) (by omega)
              rw [e1, e2]
              exact ⟨⟨_, _, _, _, f, rfl, rfl, rfl, rfl, by omega, hu, hc2, hg, HF.out, trivial⟩, by simp only [intOf, Int.toNat_natCast]; omega⟩
            · cases hf
          · have hf := HF.out
            rw [if_neg hlt] at hf
            split at hf
            · rename_i hc
              obtain ⟨hc1, hc2⟩ := hc
              have HF := Lib.hid hf
              clear hf
              have t2 : ¬ (p : Int) - (q : Int) < 0 := by omega
              have t3 : wrap64 ((p : Int) - (q : Int)) = (p : Int) - (q : Int) := wrap64_in (by omega)
              go_wp2_with fail
              have e1 := sh_int (n := p - q) u v hu hv (by omega) ((p - q : Nat) : Int) (by omega)
              have e2 := sh_int (n := p - q) g h hg hh (by omega) ((p - q : Nat) : Int) (by omega)
              rw [Int.toNat_natCast] at e1 e2
              rw [e1, e2]
              exact ⟨⟨_, _, _, _, f, rfl, rfl, rfl, rfl, by omega, hv, hc2, hh, HF.out, trivial⟩, by simp only [intOf, Int.toNat_natCast]; omega⟩
            · cases hf

/-! ## substitutions -/
def rt (b n : Nat) : Nat := b * 2 ^ (8 - n) % 256 ||| b / 2 ^ n
theorem rt_lt {b : Nat} (hb : b < 256) (n : Nat) : rt b n < 256 := Nat.or_lt_two_pow (n := 8) (Nat.mod_lt _ (by decide)) (Nat.lt_of_le_of_lt (Nat.div_le_self _ _) hb)
end Go.Proofs.Ytdmfajcbbolfiaa
