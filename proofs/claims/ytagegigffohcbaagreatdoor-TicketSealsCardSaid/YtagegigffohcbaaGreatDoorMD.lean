/-
  The table of substitutions as the reference fills it: powers of 3, and the second part of a substitution.
  The reference of layer 6, as far as layer 7 reaches it: the product, the second part of a substitution, the table.
  The reference's table of substitutions.
  The reference's round keys.
  The reference's round.
  The reference's encryption.
  Package tollref08 (the reference): Block, Stream, Crypt.
-/
import Derived.Test.YtagegigffohcbaaGreatDoorMB
import Derived.Deep.CutBlock
import Derived.Test.YtagegigffohcbaaGreatDoorMC
set_option linter.unusedVariables false
set_option linter.unusedSimpArgs false
namespace Go.Proofs.YtagegigffohcbaaGreatDoor
open Go.RowKit

def pl : List Nat := [1, 3, 5, 15, 17, 51, 85, 255, 26, 46, 114, 150, 161, 248, 19, 53, 95, 225, 56, 72, 216, 115, 149, 164, 247, 2, 6, 10, 30, 34, 102, 170, 229, 52, 92, 228, 55, 89, 235, 38, 106, 190, 217, 112, 144, 171, 230, 49, 83, 245, 4, 12, 20, 60, 68, 204, 79, 209, 104, 184, 211, 110, 178, 205, 76, 212, 103, 169, 224, 59, 77, 215, 98, 166, 241, 8, 24, 40, 120, 136, 131, 158, 185, 208, 107, 189, 220, 127, 129, 152, 179, 206, 73, 219, 118, 154, 181, 196, 87, 249, 16, 48, 80, 240, 11, 29, 39, 105, 187, 214, 97, 163, 254, 25, 43, 125, 135, 146, 173, 236, 47, 113, 147, 174, 233, 32, 96, 160, 251, 22, 58, 78, 210, 109, 183, 194, 93, 231, 50, 86, 250, 21, 63, 65, 195, 94, 226, 61, 71, 201, 64, 192, 91, 237, 44, 116, 156, 191, 218, 117, 159, 186, 213, 100, 172, 239, 42, 126, 130, 157, 188, 223, 122, 142, 137, 128, 155, 182, 193, 88, 232, 35, 101, 175, 234, 37, 111, 177, 200, 67, 197, 84, 252, 31, 33, 99, 165, 244, 7, 9, 27, 45, 119, 153, 176, 203, 70, 202, 69, 207, 74, 222, 121, 139, 134, 145, 168, 227, 62, 66, 198, 81, 243, 14, 18, 54, 90, 238, 41, 123, 141, 140, 143, 138, 133, 148, 167, 242, 13, 23, 57, 75, 221, 124, 132, 151, 162, 253, 28, 36, 108, 180, 199, 82, 246, 1, 3]
def lgl : List Nat := [0, 0, 25, 1, 50, 2, 26, 198, 75, 199, 27, 104, 51, 238, 223, 3, 100, 4, 224, 14, 52, 141, 129, 239, 76, 113, 8, 200, 248, 105, 28, 193, 125, 194, 29, 181, 249, 185, 39, 106, 77, 228, 166, 114, 154, 201, 9, 120, 101, 47, 138, 5, 33, 15, 225, 36, 18, 240, 130, 69, 53, 147, 218, 142, 150, 143, 219, 189, 54, 208, 206, 148, 19, 92, 210, 241, 64, 70, 131, 56, 102, 221, 253, 48, 191, 6, 139, 98, 179, 37, 226, 152, 34, 136, 145, 16, 126, 110, 72, 195, 163, 182, 30, 66, 58, 107, 40, 84, 250, 133, 61, 186, 43, 121, 10, 21, 155, 159, 94, 202, 78, 212, 172, 229, 243, 115, 167, 87, 175, 88, 168, 80, 244, 234, 214, 116, 79, 174, 233, 213, 231, 230, 173, 232, 44, 215, 117, 122, 235, 22, 11, 245, 89, 203, 95, 176, 156, 169, 81, 160, 127, 12, 246, 111, 23, 196, 73, 236, 216, 67, 31, 45, 164, 118, 123, 183, 204, 187, 62, 90, 251, 96, 177, 134, 59, 82, 161, 108, 170, 85, 41, 157, 151, 178, 135, 144, 97, 190, 220, 252, 188, 149, 207, 205, 55, 63, 91, 209, 83, 57, 132, 60, 65, 162, 109, 71, 20, 42, 158, 93, 86, 242, 211, 171, 68, 17, 146, 217, 35, 32, 46, 137, 180, 124, 184, 38, 119, 153, 227, 165, 103, 74, 237, 222, 197, 49, 254, 24, 13, 99, 140, 128, 192, 247, 112, 7]
theorem pl_step : ∀ i < 256, gm (pl.getD i 0) 3 = pl.getD (i + 1) 0 := by decide +kernel
theorem gp3 (n : Nat) (hn : n ≤ 256) : gp 3 n = pl.getD n 0 := by
  induction n with
  | zero => rw [gp]; rfl
  | succ n ih => rw [gp, ih (by omega), pl_step n (by omega)]
theorem lg_lt : ∀ j < 256, lgl.getD j 0 < 256 := by decide +kernel
theorem pl_lg : ∀ j < 256, j ≠ 0 → pl.getD (lgl.getD j 0) 0 = j := by decide +kernel
theorem gp3_all {j : Nat} (hj : j < 256) (h0 : j ≠ 0) : ∃ m, m < 256 ∧ gp 3 m = j := ⟨_, lg_lt j hj, by rw [gp3 _ (Nat.le_of_lt (lg_lt j hj)), pl_lg j hj h0]⟩
theorem gp3_ne {n : Nat} : gp 3 n ≠ 0 := by
  induction n with
  | zero => rw [gp]; decide
  | succ n ih => rw [gp]; exact gm_ne (gp_lt (by decide) n) (by decide) ih (by decide)
theorem gp3_inv {n : Nat} (hn : n ≤ 255) : gp 3 (255 - n) = gi (gp 3 n) := by
  refine gi_uniq (gp_lt (by decide) _) (gp_lt (by decide) _) ?_
  rw [← gp_add (by decide), show n + (255 - n) = 255 by omega, gp_order (by decide) (by decide)]

/-! ## the second part of a substitution -/
def ax (b i : Nat) : Nat → Nat
  | 0 => 99 / 2 ^ i % 2 + b / 2 ^ i % 2
  | k + 1 => ax b i k + b / 2 ^ ((i + (4 + k)) % 8) % 2
def ao (b : Nat) : Nat → Nat
  | 0 => 0
  | i + 1 => ao b i + ax b i 4 % 2 * 2 ^ i
def af (b : Nat) : Nat := ao b 8
theorem af_sb : ∀ a < 256, af (gi a) = sb a := by decide +kernel
theorem af_lt : ∀ a < 256, af a < 256 := by decide +kernel
theorem af_zero : af 0 = sb 0 := by decide +kernel
theorem ax_le (b i k : Nat) : ax b i k ≤ 2 + k := by
  induction k with
  | zero => rw [ax]; omega
  | succ k ih => rw [ax]; omega
theorem ao_lt (b i : Nat) : ao b i < 2 ^ i := by
  induction i with
  | zero => rw [ao]; decide
  | succ i ih =>
    rw [ao, Nat.pow_succ]
    rcases (show ax b i 4 % 2 = 0 ∨ ax b i 4 % 2 = 1 by omega) with h | h <;> rw [h] <;> omega

/-! ## the table while it is filled -/
def bxp (n : Nat) : Nat → Nat
  | j => if j = 0 ∨ ∃ m, m < n ∧ gp 3 m = j then sb j else 0
theorem bxp_zero (j : Nat) : bxp 0 j = if j = 0 then af 0 else 0 := by
  unfold bxp
  by_cases h : j = 0
  · rw [if_pos (.inl h), if_pos h, h, af_zero]
  · rw [if_neg (by rintro (h1 | ⟨m, hm, _⟩) <;> omega), if_neg h]
theorem bxp_new {n : Nat} (hn : n ≤ 255) : bxp (n + 1) (gp 3 n) = af (gp 3 (255 - n)) := by
  unfold bxp
  rw [if_pos (.inr ⟨n, by omega, rfl⟩), gp3_inv hn, af_sb _ (gp_lt (by decide) n)]
theorem bxp_old {n j : Nat} (h : j ≠ gp 3 n) : bxp n j = bxp (n + 1) j := by
  unfold bxp
  by_cases h1 : j = 0 ∨ ∃ m, m < n ∧ gp 3 m = j
  · rw [if_pos h1, if_pos (h1.imp id fun ⟨m, hm, e⟩ => ⟨m, by omega, e⟩)]
  · rw [if_neg h1, if_neg]
    rintro (h2 | ⟨m, hm, e⟩)
    · exact h1 (.inl h2)
    · by_cases hmn : m = n
      · subst hmn; exact h e.symm
      · exact h1 (.inr ⟨m, by omega, e⟩)
theorem bxp_all {j : Nat} (hj : j < 256) : bxp 256 j = sb j := by
  unfold bxp
  rw [if_pos]
  by_cases h0 : j = 0
  · exact .inl h0
  · exact .inr (gp3_all hj h0)
end Go.Proofs.YtagegigffohcbaaGreatDoor

namespace Go.Proofs.YtagegigffohcbaaGreatDoor
open Go.RowKit
set_option linter.unusedVariables false
set_option linter.unusedSimpArgs false

theorem clm_lt {a b : Nat} (ha : a < 256) (n : Nat) (hn : n ≤ 8) : clm a b n < 65536 := by
  induction n with
  | zero => rw [clm]; decide
  | succ n ih =>
    rw [clm]
    refine Nat.xor_lt_two_pow (n := 16) (ih (by omega)) ?_
    unfold pick
    split
    · rw [Nat.shiftLeft_eq]
      have := Nat.pow_le_pow_right (n := 2) (by decide) (show n ≤ 7 by omega)
      calc a * 2 ^ n ≤ a * 2 ^ 7 := Nat.mul_le_mul_left _ this
        _ < 2 ^ 16 := by omega
    · decide
theorem bit_int (b i : Nat) (hb : b < 4611686018427387904) : bits .and .i64 ((b : Int) / 2 ^ i) 1 = ((b / 2 ^ i % 2 : Nat) : Int) := by
  have h := i64_and1 (b / 2 ^ i) (Nat.lt_of_le_of_lt (Nat.div_le_self _ _) hb)
  rw [Int.natCast_ediv] at h
  push_cast at h ⊢
  exact h
theorem bit_eq (b i : Nat) (hb : b < 4611686018427387904) : (bits .and .i64 ((b : Int) / 2 ^ i) 1 == 1) = b.testBit i := by
  rw [bit_int b i hb, Nat.testBit_eq_decide_div_mod_eq]
  by_cases h : b / 2 ^ i % 2 = 1
  · rw [h]; rfl
  · rw [decide_eq_false h, beq_eq_false_iff_ne]
    omega
theorem shl_int (x n : Nat) (hx : x < 512) (hn : n ≤ 8) : wrap64 ((x : Int) * 2 ^ n) = ((x * 2 ^ n : Nat) : Int) := by
  have h := shl_ok hx (show n ≤ 9 by omega)
  rw [show ((x : Int) * 2 ^ n) = ((x * 2 ^ n : Nat) : Int) by push_cast; rfl]
  exact wrap64_in (by omega)
set_option maxRecDepth 100000 in
set_option maxHeartbeats 1000000 in
theorem rmul_c (a b : Nat) (ha : a < 256) (hb : b < 256) (w : World) : Calls Tryz.prog 94 #[.int .u8 a, .int .u8 b] w fun e w' => e = .returned (.int .u8 (gm a b : Nat)) ∧ w' = w := by
  go_enter Tryz.func94, Tryz.ntmps94
  go_wp2_with fail
  go_loopw [5, 6] (fun p v wr => ∃ i : Nat, i ≤ 8 ∧ v = .int .i64 i ∧ p = .int .i64 (clm a b i : Nat) ∧ wr = w) (fun _ v _ => 8 - (intOf v).toNat)
  case atStart => exact ⟨0, by omega, rfl, rfl, rfl⟩
  case round =>
    obtain ⟨i, hi, rfl, rfl, rfl⟩ := hrel
    by_cases hlt : i < 8
    · have i1 : (i : Int) < 8 := by omega
      have q := bit_eq b i (by omega)
      have hcl := clm_lt (b := b) ha i hi
      have hs := shl_ok (show a < 512 by omega) (show i ≤ 9 by omega)
      have q2 := shl_int a i (by omega) (by omega)
      have q3 := i64_xor_nat (clm a b i) (a * 2 ^ i) (by omega) (by omega)
      have e : clm a b (i + 1) = clm a b i ^^^ (if b.testBit i then a * 2 ^ i else 0) := by rw [clm, pick, Nat.shiftLeft_eq]
      cases ht : b.testBit i with
      | true =>
        rw [ht] at q e
        rw [if_pos rfl] at e
        have HE := Lib.hid e
        clear e ht
        go_wp2_with fail
        refine ⟨⟨i + 1, by omega, by go_num, by rw [HE.out, ← q3]; push_cast; rfl, trivial⟩, ?_⟩
        simp only [intOf]
        omega
      | false =>
        rw [ht] at q e
        rw [if_neg (by decide), Nat.xor_zero] at e
        have HE := Lib.hid e
        clear e ht q2 q3
        go_wp2_with fail
        refine ⟨⟨i + 1, by omega, by go_num, by rw [HE.out], trivial⟩, ?_⟩
        simp only [intOf]
        omega
    · have e8 : i = 8 := by omega
      subst e8
      have hcl := clm_lt (b := b) ha 8 (by decide)
      obtain ⟨c, hc⟩ : ∃ c, c = clm a b 8 := ⟨_, rfl⟩
      rw [← hc] at hcl ⊢
      have hred : red c 7 = gm a b := by rw [hc]; rfl
      clear hc
      go_wp2_with fail
      go_loopw [5, 7] (fun p v wi => ∃ x m : Nat, m ≤ 7 ∧ v = .int .i64 (7 + m : Nat) ∧ p = .int .i64 x ∧ x < 65536 ∧ Hid (red x m = gm a b) ∧ wi = wr) (fun _ v _ => (intOf v).toNat)
      case atStart => exact ⟨c, 7, by omega, rfl, rfl, hcl, Lib.hid hred, rfl⟩
      case round =>
        obtain ⟨x, m, hm, rfl, rfl, hx, HR, rfl⟩ := hrel
        by_cases h0 : m = 0
        · subst h0
          have h := HR.out
          rw [red] at h
          have hl := gm_lt ha hb
          rw [← h] at hl ⊢
          have q : (x : Int) % 256 = x := by omega
          go_wp2_with fail
          go_ret
          exact ⟨rfl, rfl⟩
        · obtain ⟨n, rfl⟩ : ∃ n, m = n + 1 := ⟨m - 1, by omega⟩
          have q := bit_eq x (7 + (n + 1)) (by omega)
          have hs := shl_ok (show 283 < 512 by omega) (show n ≤ 9 by omega)
          have q2 : wrap64 ((283 : Int) * 2 ^ n) = ((283 * 2 ^ n : Nat) : Int) := shl_int 283 n (by omega) (by omega)
          have q3 := i64_xor_nat x (283 * 2 ^ n) (by omega) (by omega)
          have hx2 : x ^^^ 283 * 2 ^ n < 65536 := Nat.xor_lt_two_pow (n := 16) hx (by
            have := Nat.pow_le_pow_right (n := 2) (by decide) (show n ≤ 6 by omega)
            calc 283 * 2 ^ n ≤ 283 * 2 ^ 6 := Nat.mul_le_mul_left _ this
              _ < 2 ^ 16 := by decide)
          have e : red x (n + 1) = red (x ^^^ (if x.testBit (7 + (n + 1)) then 283 * 2 ^ n else 0)) n := by rw [red, pick, Nat.shiftLeft_eq, show 8 + n = 7 + (n + 1) by omega]
          obtain ⟨i, hi⟩ : ∃ i, i = 7 + (n + 1) := ⟨_, rfl⟩
          have i1 : (8 : Int) ≤ (i : Int) := by omega
          have i2 : (i : Int) ≤ 14 := by omega
          have t1 : IntKind.i64.wrap ((i : Int) - 8) = (n : Int) := by rw [IntWalk.i64_in _ (by omega)]; omega
          rw [← hi] at q e ⊢
          cases ht : x.testBit i with
          | true =>
            rw [ht] at q e
            rw [if_pos rfl] at e
            have HE := Lib.hid e
            have HI := Lib.hid hi
            clear e ht hi
            go_wp2_with fail
            have hi := HI.out
            refine ⟨⟨x ^^^ 283 * 2 ^ n, n, by omega, by congr 1; omega, by first | (rw [← q3]; push_cast; rfl) | (rw [← q3, ← q2]), hx2, Lib.hid (by rw [← HR.out, HE.out]), trivial⟩, ?_⟩
            simp only [intOf]
            omega
          | false =>
            rw [ht] at q e
            rw [if_neg (by decide), Nat.xor_zero] at e
            have HE := Lib.hid e
            have HI := Lib.hid hi
            clear e ht hi q2 q3
            go_wp2_with fail
            have hi := HI.out
            refine ⟨⟨x, n, by omega, by congr 1; omega, rfl, hx, Lib.hid (by rw [← HR.out, HE.out]), trivial⟩, ?_⟩
            simp only [intOf]
            omega

set_option maxRecDepth 100000 in
set_option maxHeartbeats 1000000 in
theorem affine_c (b : Nat) (hb : b < 256) (w : World) : Calls Tryz.prog 95 #[.int .i64 b] w fun e w' => e = .returned (.int .u8 (af b : Nat)) ∧ w' = w := by
  go_enter Tryz.func95, Tryz.ntmps95
  go_wp2_with fail
  go_loopw [3, 4] (fun o v wr => ∃ i : Nat, i ≤ 8 ∧ v = .int .i64 i ∧ o = .int .i64 (ao b i : Nat) ∧ wr = w) (fun _ v _ => 8 - (intOf v).toNat)
  case atStart => exact ⟨0, by omega, rfl, rfl, rfl⟩
  case round =>
    obtain ⟨i, hi, rfl, rfl, rfl⟩ := hrel
    by_cases hlt : i < 8
    · have i1 : (i : Int) < 8 := by omega
      have q1 : bits .and .i64 ((99 : Int) / 2 ^ i) 1 = ((99 / 2 ^ i % 2 : Nat) : Int) := bit_int 99 i (by decide)
      have q2 := bit_int b i (by omega)
      obtain ⟨y, hy⟩ : ∃ y, y = 99 / 2 ^ i % 2 := ⟨_, rfl⟩
      obtain ⟨z, hz⟩ : ∃ z, z = b / 2 ^ i % 2 := ⟨_, rfl⟩
      rw [← hy] at q1
      rw [← hz] at q2
      obtain ⟨o, ho⟩ : ∃ o, o = ao b i := ⟨_, rfl⟩
      rw [← ho]
      have HY := Lib.hid hy
      have HZ := Lib.hid hz
      have HO := Lib.hid ho
      have hol : o < 256 := by
        rw [ho]
        exact Nat.lt_of_lt_of_le (ao_lt b i) (Nat.pow_le_pow_right (n := 2) (by decide) hi)
      have hyl : y < 2 := by rw [hy]; exact Nat.mod_lt _ (by decide)
      have hzl : z < 2 := by rw [hz]; exact Nat.mod_lt _ (by decide)
      have q0 : wrap64 ((y : Int) + (z : Int)) = (y : Int) + z := wrap64_in (by omega)
      clear hy hz ho
      go_wp2_with fail
      go_loopw [5, 6] (fun x v wi => ∃ k x' : Nat, k ≤ 4 ∧ v = .int .i64 (4 + k : Nat) ∧ x = .int .i64 x' ∧ Hid (x' = ax b i k) ∧ wi = wr) (fun _ v _ => 8 - (intOf v).toNat)
      case atStart => exact ⟨0, y + z, by omega, rfl, by congr 1, Lib.hid (by rw [ax, HY.out, HZ.out]), rfl⟩
      case round =>
        obtain ⟨k, x', hk, rfl, rfl, HX, rfl⟩ := hrel
        have hxl := ax_le b i k
        rw [← HX.out] at hxl
        by_cases hlk : k < 4
        · obtain ⟨j, hj⟩ : ∃ j, j = 4 + k := ⟨_, rfl⟩
          obtain ⟨s, hs⟩ : ∃ s, s = (i + (4 + k)) % 8 := ⟨_, rfl⟩
          have m1 : ((i : Int) + (j : Int)).tmod 8 = (s : Int) := by rw [Int.tmod_eq_emod_of_nonneg (by omega)]; omega
          have m2 : ((i : Int) + (j : Int)) % 8 = (s : Int) := by omega
          have m3 : IntKind.i64.wrap ((i : Int) + (j : Int)) = (i : Int) + j := IntWalk.i64_in _ (by omega)
          have j1 : (j : Int) < 8 := by omega
          have q3 := bit_int b s (by omega)
          obtain ⟨d, hd⟩ : ∃ d, d = b / 2 ^ s % 2 := ⟨_, rfl⟩
          rw [← hd] at q3
          have hdl : d < 2 := by rw [hd]; exact Nat.mod_lt _ (by decide)
          have q4 : IntKind.i64.wrap ((x' : Int) + (d : Int)) = (x' : Int) + d := IntWalk.i64_in _ (by omega)
          rw [← hj]
          have HJ := Lib.hid hj
          have HD : Hid (ax b i (k + 1) = x' + d) := Lib.hid (by rw [ax, HX.out, hd, hs])
          clear hj hs hd
          go_wp2_with fail
          have hj := HJ.out
          refine ⟨⟨k + 1, x' + d, by omega, by congr 1; omega, by push_cast; rfl, Lib.hid HD.out.symm, trivial⟩, ?_⟩
          simp only [intOf]
          omega
        · have e4 : k = 4 := by omega
          subst e4
          have hs := ao_lt b (i + 1)
          have hp := Nat.pow_le_pow_right (n := 2) (by decide) (show i + 1 ≤ 8 by omega)
          have e : ao b (i + 1) = o + x' % 2 * 2 ^ i := by rw [ao, HO.out, HX.out]
          rw [e] at hs
          have HE := Lib.hid e
          have q5 := shl_int (x' % 2) i (by omega) (by omega)
          push_cast at q5
          have q6 : IntKind.i64.wrap ((o : Int) + (x' : Int) % 2 * 2 ^ i) = (o : Int) + (x' : Int) % 2 * 2 ^ i := IntWalk.i64_in _ (by
            have h1 : ((o + x' % 2 * 2 ^ i : Nat) : Int) < 256 := by omega
            have h2 : (0 : Int) ≤ ((o + x' % 2 * 2 ^ i : Nat) : Int) := by omega
            push_cast at h1 h2
            omega)
          have m1 : (x' : Int).tmod 2 = (x' : Int) % 2 := Int.tmod_eq_emod_of_nonneg (by omega)
          clear e hs hp
          go_wp2_with fail
          refine ⟨⟨i + 1, by omega, by go_num, by rw [HE.out]; push_cast; rfl, trivial⟩, ?_⟩
          simp only [intOf]
          omega
    · have e8 : i = 8 := by omega
      subst e8
      have hl := af_lt b hb
      unfold af at hl
      have q : ((ao b 8 : Nat) : Int) % 256 = (ao b 8 : Nat) := by omega
      obtain ⟨o, ho⟩ : ∃ o, o = ao b 8 := ⟨_, rfl⟩
      rw [← ho] at q ⊢
      have HO := Lib.hid ho
      clear ho hl
      go_wp2_with fail
      go_ret
      exact ⟨by rw [af, ← HO.out]; rfl, rfl⟩
end Go.Proofs.YtagegigffohcbaaGreatDoor

namespace Go.Proofs.YtagegigffohcbaaGreatDoor
open Go.RowKit
set_option linter.unusedVariables false
set_option linter.unusedSimpArgs false

theorem size_box : (Tryz.prog.info? 100).map (·.size) = some 256 := by kernel_rfl
theorem zero_box (W : World) : (zeroValue 100).run Tryz.prog W = .ok (.agg (tabV .u8 256 (fun _ => 0))) W := by kernel_rfl
set_option maxRecDepth 100000 in
set_option maxHeartbeats 4000000 in
theorem rbox_c (w : World) : Calls Tryz.prog 85 #[] w fun e w' => e = .returned (.agg (tabV .u8 256 sb)) ∧ Ext w w' := by
  have zb := zero_box
  go_enter Tryz.func85, Tryz.ntmps85
  go_wp2_with fail
  go_loopw [2, 3] (fun x v wr => ∃ n : Nat, n ≤ 256 ∧ v = .int .i64 n ∧ x = .int .u8 (gp 3 n : Nat) ∧ Arr wr (w.heap.size + 1) 100 .u8 256 (fun j => if j < n then gp 3 j else 0) ∧ Arr wr w.heap.size 100 .u8 256 (fun _ => 0) ∧ Ext w wr) (fun _ v _ => 256 - (intOf v).toNat)
  case atStart =>
    obtain ⟨h0, h1⟩ := two_new w (.cells (tabV .u8 256 (fun _ => 0)) 100) (.cells (tabV .u8 256 (fun _ => 0)) 100)
    exact ⟨0, by omega, rfl, by rw [gp]; rfl, Arr.congr (f := fun _ => 0) h1 (fun i _ => by simp), h0, (Ext.alloc _ _).tr (Ext.alloc _ _)⟩
  case round =>
    obtain ⟨n, hn, rfl, rfl, hA, hB, hx⟩ := hrel
    by_cases hlt : n < 256
    · have i1 : (n : Int) < 256 := by omega
      have c1 := hA.cell (i := n) hlt
      have f1 := hA.free n
      have hg := gp_lt (show 3 < 256 by decide) n
      obtain ⟨x, hxx⟩ : ∃ x, x = gp 3 n := ⟨_, rfl⟩
      rw [← hxx] at hg ⊢
      have HXX := Lib.hid hxx
      have HA := Lib.hid hA
      have HB := Lib.hid hB
      have HX := Lib.hid hx
      clear hA hB hx hxx
      go_wp2_with fail
      refine (rmul_c x 3 hg (by decide) _).mono ?_
      rintro e v ⟨rfl, rfl⟩
      go_wp2_with fail
      refine ⟨⟨n + 1, by omega, by go_num, by rw [gp, ← HXX.out], HA.out.to hlt (by rw [if_pos (by omega), HXX.out]) (fun j _ hne => ?_), HB.out.other (by omega) _ _, ext_setCell HX.out (by simp) _⟩, ?_⟩
      · by_cases hj : j < n
        · rw [if_pos hj, if_pos (by omega)]
        · rw [if_neg hj, if_neg (by omega)]
      · simp only [intOf]
        omega
    · have e256 : n = 256 := by omega
      subst e256
      have HA := Lib.hid (hA.congr (f' := gp 3) (fun j hj => by rw [if_pos hj]))
      have HB := Lib.hid hB
      have HX := Lib.hid hx
      clear hA hB hx
      obtain ⟨z3, hz3⟩ : ∃ z, z = gp 3 256 := ⟨_, rfl⟩
      rw [← hz3]
      clear hz3
      go_wp2_with fail
      refine (affine_c 0 (by decide) _).mono ?_
      rintro e v ⟨rfl, rfl⟩
      obtain ⟨go, hgo⟩ : ∃ go, go = wr.heap.size := ⟨_, rfl⟩
      obtain ⟨w2, hw2⟩ : ∃ w2, w2 = wr.alloc (.cells (tabV .u8 256 (fun _ => 0)) 100) := ⟨_, rfl⟩
      have hz : Arr w2 go 100 .u8 256 (fun _ => 0) := by rw [hw2, hgo]; exact Arr.new _ _ _ _ _
      have hgl : w.heap.size + 1 < go := by rw [hgo]; exact HA.out.lt
      have x2 : Ext wr w2 := by rw [hw2]; exact Ext.alloc _ _
      have c0 := hz.cell (i := 0) (by decide)
      have f0 := hz.free 0
      rw [← hgo, ← hw2]
      have HZ := Lib.hid hz
      have HA := Lib.hid (HA.out.ext x2)
      have HB := Lib.hid (HB.out.ext x2)
      have HX := Lib.hid (HX.out.tr x2)
      have HGL := Lib.hid hgl
      obtain ⟨a0, ha0⟩ : ∃ a0, a0 = af 0 := ⟨_, rfl⟩
      rw [← ha0]
      have HA0 := Lib.hid ha0
      clear hgo hw2 hz hgl x2 ha0
      go_wp2_with fail
      obtain ⟨w3, hw3⟩ : ∃ w3, w3 = w2.setCell ⟨go, 0, none⟩ (.int .u8 a0) := ⟨_, rfl⟩
      rw [← hw3]
      have HO3 : Hid (Arr w3 go 100 .u8 256 (bxp 0)) := Lib.hid (by
        rw [hw3]
        refine HZ.out.to (by decide) (by rw [bxp_zero, if_pos rfl, HA0.out]) (fun j _ hne => by rw [bxp_zero, if_neg hne]))
      have HA3 : Hid (Arr w3 (w.heap.size + 1) 100 .u8 256 (gp 3)) := Lib.hid (by rw [hw3]; exact HA.out.other (by have := HGL.out; omega) _ _)
      have HB3 : Hid (Arr w3 w.heap.size 100 .u8 256 (fun _ => 0)) := Lib.hid (by rw [hw3]; exact HB.out.other (by have := HGL.out; omega) _ _)
      have HX3 : Hid (Ext w w3) := Lib.hid (by rw [hw3]; exact ext_setCell HX.out (by have := HGL.out; simp; omega) _)
      clear hw3 HZ HA HB HX c0 f0 HA0
      go_loopw [5] (fun v wi => ∃ n : Nat, n ≤ 256 ∧ v = .int .i64 n ∧ Arr wi go 100 .u8 256 (bxp n) ∧ Arr wi (w.heap.size + 1) 100 .u8 256 (gp 3) ∧ Arr wi w.heap.size 100 .u8 256 (fun _ => 0) ∧ Ext w wi) (fun v _ => 256 - (intOf v).toNat)
      case atStart => exact ⟨0, by omega, rfl, HO3.out, HA3.out, HB3.out, HX3.out⟩
      case round =>
        obtain ⟨n, hn, rfl, hO, hA, hB, hx⟩ := hrel
        by_cases hlt : n < 256
        · obtain ⟨wd, hwd⟩ : ∃ wd, wd = wr.drew := ⟨_, rfl⟩
          have xd : Ext wr wd := by rw [hwd]; exact Ext.drew _
          have hO1 := hO.ext xd
          have hA1 := hA.ext xd
          have hpl := gp_lt (show 3 < 256 by decide) n
          have hql := gp_lt (show 3 < 256 by decide) (255 - n)
          have c1 := hA1.cell (i := n) hlt
          have c2 := hA1.cell (i := 255 - n) (by omega)
          have hnew := bxp_new (show n ≤ 255 by omega)
          have hold := fun j (h : j ≠ gp 3 n) => bxp_old h
          obtain ⟨p, hp⟩ : ∃ p, p = gp 3 n := ⟨_, rfl⟩
          obtain ⟨q, hq⟩ : ∃ q, q = gp 3 (255 - n) := ⟨_, rfl⟩
          rw [← hp] at c1 hpl hnew hold
          rw [← hq] at c2 hql hnew
          have c3 := hO1.cell (i := p) hpl
          have f3 := hO1.free p
          have q1 : IntKind.i64.wrap (255 - (n : Int)) = 255 - n := IntWalk.i64_in _ (by omega)
          have t1 : (255 - (n : Int)).toNat = 255 - n := by omega
          have q0 : IntKind.i64.wrap (q : Int) = (q : Int) := IntWalk.i64_in _ (by omega)
          have l1 : (n : Int) ≤ 255 := by omega
          have l2 : 255 - (n : Int) < 256 := by omega
          have l3 : 0 ≤ 255 - (n : Int) := by omega
          have l4 : (p : Int) < 256 := by omega
          have l5 : (n : Int) < 256 := by omega
          have HO1 := Lib.hid hO1
          have HA1 := Lib.hid hA1
          have HB1 := Lib.hid (hB.ext xd)
          have HX1 := Lib.hid (hx.tr xd)
          have HWD := Lib.hid hwd
          have HNEW := Lib.hid hnew
          have HOLD := Lib.hid hold
          clear hO hA hB hx xd hO1 hA1 hwd hnew hold hp hq
          go_wp2_with fail
          refine wp_region_ord 9 (fun W => W = wd) (by kernel_rfl) (by kernel_rfl) (by decide) (by kernel_rfl) HWD.out.symm ?_
          simp only [List.take_succ_cons, List.take_zero, List.drop_succ_cons, List.drop_zero]
          repeat (refine wpTxt_stay ?_ (fun K hK => ?_) rfl ?_; rotate_left; (simp only [Act.put, List.setIfInBounds_toArray, List.set_cons_zero, List.set_cons_succ] at hK; go_simp; exact hK); simp only [Act.put, List.setIfInBounds_toArray, List.set_cons_zero, List.set_cons_succ])
          refine wpTxt_stay ?_ (fun K hK => ?_) rfl ?_
          rotate_left
          · simp only [Act.put, List.setIfInBounds_toArray, List.set_cons_zero, List.set_cons_succ] at hK
            go_simp
            refine (affine_c q hql _).mono ?_
            rintro e v ⟨rfl, rfl⟩
            exact hK
          simp only [Act.put, List.setIfInBounds_toArray, List.set_cons_zero, List.set_cons_succ]
          refine wpTxt_nil ?_
          rintro W rfl
          go_wp2_with fail
          have hgl := HGL.out
          refine ⟨⟨n + 1, by omega, by go_num, HO1.out.to hpl (by rw [HNEW.out]) (fun j _ hne => HOLD.out j hne), HA1.out.other (by omega) _ _, HB1.out.other (by omega) _ _, ext_setCell HX1.out (by simp; omega) _⟩, ?_⟩
          simp only [intOf]
          omega
        · have e256 : n = 256 := by omega
          subst e256
          have HO := Lib.hid (hO.congr (f' := sb) (fun j hj => bxp_all hj))
          have HB := Lib.hid hB
          have HX := Lib.hid hx
          clear hO hA hB hx
          go_wp2_with (first
            | refine wpList_load_arr rfl 100 (.tmp 4) rfl go rfl 100 .u8 256 sb _ HO.out Tryz.underlying100 size_box ?_
            | (refine wpList_store_arr' rfl rfl 100 (.tmp 0) (.tmp 31) rfl w.heap.size .u8 256 sb rfl rfl 100 _ HB.out size_box tabV_size ?_; intro w5 hA5 hG5))
          refine bodyPost_ret (v := .agg (tabV .u8 256 sb)) ?_ rfl ⟨rfl, grown_new HX.out hG5 (fun g hg => by simp at hg; omega)⟩
          exact results_cell_row rfl _ _ _ _ _ _ _ rfl hA5 Tryz.underlying100 rfl (by rw [tabV_size]; exact size_box)
set_option maxRecDepth 100000 in
theorem box_c (w : World) : Calls Tryz.prog 72 #[] w fun e w' => e = .returned (.agg (tabV .u8 256 sb)) ∧ Ext w w' := by
  have zb := zero_box
  have HZ := Lib.hid (Arr.new w 100 .u8 256 (fun _ => 0))
  go_enter Tryz.func72, Tryz.ntmps72
  go_wp2_with fail
  refine (rbox_c _).mono ?_
  rintro e w1 ⟨rfl, hx1⟩
  have HB := Lib.hid (HZ.out.ext hx1)
  have HX := Lib.hid ((Ext.alloc _ _).tr hx1)
  clear hx1 HZ
  go_wp2_with (refine wpList_store_arr' rfl rfl 100 (.tmp 0) (.tmp 1) rfl w.heap.size .u8 256 sb rfl rfl 100 _ HB.out size_box tabV_size ?_; intro w5 hA5 hG5)
  refine bodyPost_ret (v := .agg (tabV .u8 256 sb)) ?_ rfl ⟨rfl, grown_new HX.out hG5 (fun g hg => by simp at hg; omega)⟩
  exact results_cell_row rfl _ _ _ _ _ _ _ rfl hA5 Tryz.underlying100 rfl (by rw [tabV_size]; exact size_box)
end Go.Proofs.YtagegigffohcbaaGreatDoor

namespace Go.Proofs.YtagegigffohcbaaGreatDoor
open Go.RowKit
set_option linter.unusedVariables false
set_option linter.unusedSimpArgs false

theorem kf_byt {f : Bk} (h : Byt f) {i : Nat} : kf f i < 256 := kys_byt h _ _ (Nat.mod_lt _ (by decide))
/-- the column t of the definition -/
def tt (f : Bk) (i : Nat) : Nat → Nat := fun r => if i % 4 = 0 then sb (kf f (4 * (i - 1) + (r + 1) % 4)) ^^^ (if r = 0 then gp 2 (i / 4 - 1) else 0) else kf f (4 * (i - 1) + r)
theorem kf_low (f : Bk) {i : Nat} (hi : i < 16) : kf f i = f i := by
  unfold kf
  rw [show i / 16 = 0 by omega, show i % 16 = i by omega, kys]
theorem kf_rec (f : Bk) {i r : Nat} (h4 : 4 ≤ i) (hr : r < 4) : kf f (4 * i + r) = kf f (4 * (i - 4) + r) ^^^ tt f i r := by
  obtain ⟨m, hm⟩ : ∃ m, i / 4 = m + 1 := ⟨i / 4 - 1, by omega⟩
  unfold kf tt
  rw [show (4 * i + r) / 16 = m + 1 by omega, show (4 * i + r) % 16 = 4 * (i % 4) + r by omega, show (4 * (i - 4) + r) / 16 = m by omega, show (4 * (i - 4) + r) % 16 = 4 * (i % 4) + r by omega, kys, hm, Nat.add_sub_cancel]
  by_cases h : i % 4 = 0
  · rw [if_pos h, h, Nat.mul_zero, Nat.zero_add, nx_low _ _ hr, Nat.xor_assoc]
    unfold kf
    rw [show (4 * (i - 1) + (r + 1) % 4) / 16 = m by omega, show (4 * (i - 1) + (r + 1) % 4) % 16 = 12 + (r + 1) % 4 by omega]
  · rw [if_neg h, nx_high _ _ (by omega)]
    unfold kf
    rw [show (4 * (i - 1) + r) / 16 = m + 1 by omega, show (4 * (i - 1) + r) % 16 = 4 * (i % 4) + r - 4 by omega, kys]
theorem tt_byt {f : Bk} (h : Byt f) {i r : Nat} : tt f i r < 256 := by
  unfold tt
  split
  · refine xor8 (sb_lt _ (kf_byt h)) ?_
    split
    · exact gp_lt (by decide) _
    · decide
  · exact kf_byt h
theorem twice_ok : ∀ a < 256, (if 2 * a > 255 then 2 * a ^^^ 283 else 2 * a) = gm 2 a ∧ 2 * a ^^^ 283 < 1024 := by decide +kernel
set_option maxRecDepth 100000 in
theorem twice_c (a : Nat) (ha : a < 256) (w : World) : Calls Tryz.prog 102 #[.int .u8 a] w fun e w' => e = .returned (.int .u8 (gm 2 a : Nat)) ∧ w' = w := by
  have ht := (twice_ok a ha).1
  have hlt := gm_lt (show 2 < 256 by decide) ha
  by_cases h : 2 * a > 255
  · rw [if_pos h] at ht
    have h1 : (255 : Int) < 2 * (a : Int) := by omega
    have q := i64_xor_nat (2 * a) 283 (by omega) (by decide)
    rw [ht] at q
    push_cast at q
    have h2 : ((gm 2 a : Nat) : Int) % 256 = (gm 2 a : Nat) := by omega
    go_enter Tryz.func102, Tryz.ntmps102
    go_wp2_with fail
    go_ret
    exact ⟨rfl, rfl⟩
  · rw [if_neg h] at ht
    have h1 : ¬ (255 : Int) < 2 * (a : Int) := by omega
    have h2 : 2 * (a : Int) % 256 = 2 * (a : Int) := by omega
    go_enter Tryz.func102, Tryz.ntmps102
    go_wp2_with fail
    go_ret
    refine ⟨?_, rfl⟩
    rw [← ht]
    rfl
theorem zero_col (W : World) : (zeroValue 135).run Tryz.prog W = .ok (.agg (tabV .u8 176 (fun _ => 0))) W := by kernel_rfl
/-- the columns that are there: those before i -/
def col (f : Bk) (i : Nat) : Nat → Nat := fun j => if j / 4 < i then kf f j else 0
/-- and r bytes of column i -/
def colr (f : Bk) (i r : Nat) : Nat → Nat := fun j => if j < 4 * i + r then kf f j else 0
theorem col_r (f : Bk) (i : Nat) : col f i = colr f i 0 := by
  funext j
  unfold col colr
  by_cases h : j / 4 < i
  · rw [if_pos h, if_pos (by omega)]
  · rw [if_neg h, if_neg (by omega)]
theorem colr_4 (f : Bk) (i : Nat) : colr f i 4 = col f (i + 1) := by
  funext j
  unfold col colr
  by_cases h : j / 4 < i + 1
  · rw [if_pos h, if_pos (by omega)]
  · rw [if_neg h, if_neg (by omega)]
/-- the blocks of the reference's Keys -/
def Rk (w wr : World) (f : Bk) (F : Nat → Nat) : Prop :=
  Arr wr (w.heap.size + 1 + 1 + 1) 135 .u8 176 F ∧ Arr wr w.heap.size 22 .u8 16 f ∧ Arr wr (w.heap.size + 1) 100 .u8 256 sb ∧ Arr wr (w.heap.size + 1 + 1) 127 .u8 176 (fun _ => 0) ∧ Ext w wr
theorem Rk.ext {w wr wr' : World} {f : Bk} {F : Nat → Nat} (h : Rk w wr f F) (hx : Ext wr wr') : Rk w wr' f F := ⟨h.1.ext hx, h.2.1.ext hx, h.2.2.1.ext hx, h.2.2.2.1.ext hx, h.2.2.2.2.tr hx⟩
theorem Rk.set_ {w wr : World} {f : Bk} {i r : Nat} (h : Rk w wr f (colr f i r)) (hi : i < 44) (hr : r < 4) {v : Int} (hv : v = (kf f (4 * i + r) : Nat)) {off : Nat} (ho : off = 4 * i + r) : Rk w (wr.setCell ⟨w.heap.size + 1 + 1 + 1, off, none⟩ (.int .u8 v)) f (colr f i (r + 1)) := by
  subst ho
  refine ⟨h.1.to (by omega) (by rw [hv]; unfold colr; rw [if_pos (by omega)]) (fun j _ hne => ?_), h.2.1.other (by omega) _ _, h.2.2.1.other (by omega) _ _, h.2.2.2.1.other (by omega) _ _, ext_setCell h.2.2.2.2 (by simp; omega) _⟩
  unfold colr
  by_cases h1 : j < 4 * i + r
  · rw [if_pos h1, if_pos (by omega)]
  · rw [if_neg h1, if_neg (by omega)]
theorem Rk.grown {w wr wr' : World} {f : Bk} {F : Nat → Nat} (h : Rk w wr f F) {gv : Nat} (hg : w.heap.size + 1 + 1 + 1 < gv) (hx : wr.grownBy wr' (some gv)) : Rk w wr' f F :=
  ⟨grown_get hx h.1 (by simp; omega), grown_get hx h.2.1 (by simp; omega), grown_get hx h.2.2.1 (by simp; omega), grown_get hx h.2.2.2.1 (by simp; omega), grown_new h.2.2.2.2 hx (fun g hg' => by simp at hg'; omega)⟩
theorem Rk.congr {w wr : World} {f : Bk} {F F' : Nat → Nat} (h : Rk w wr f F) (hF : ∀ i, i < 176 → F i = F' i) : Rk w wr f F' := ⟨h.1.congr hF, h.2⟩
theorem Rk.far {w wr : World} {f : Bk} {F : Nat → Nat} (h : Rk w wr f F) {p : Addr} (hp : w.heap.size + 1 + 1 + 1 < p.block) (hps : p.spot = none) (u : Value) : Rk w (wr.setCell p u) f F := by
  obtain ⟨g, o, sp⟩ := p
  subst hps
  have hp' : w.heap.size + 1 + 1 + 1 < g := hp
  exact ⟨h.1.other (by omega) _ _, h.2.1.other (by omega) _ _, h.2.2.1.other (by omega) _ _, h.2.2.2.1.other (by omega) _ _, ext_setCell h.2.2.2.2 (by simp; omega) _⟩
theorem new4 (w : World) (o p q r : Obj) : ((((w.alloc o).alloc p).alloc q).alloc r).heap[w.heap.size]? = some o ∧ ((((w.alloc o).alloc p).alloc q).alloc r).heap[w.heap.size + 1]? = some p ∧
    ((((w.alloc o).alloc p).alloc q).alloc r).heap[w.heap.size + 1 + 1]? = some q ∧ ((((w.alloc o).alloc p).alloc q).alloc r).heap[w.heap.size + 1 + 1 + 1]? = some r := by
  obtain ⟨h1, h2, h3⟩ := new3 w o p q
  have x1 := (Ext.alloc (((w.alloc o).alloc p).alloc q) r)
  refine ⟨x1.get h1, x1.get h2, x1.get h3, ?_⟩
  have h := new_of (((w.alloc o).alloc p).alloc q) r
  rw [show (((w.alloc o).alloc p).alloc q).heap.size = w.heap.size + 1 + 1 + 1 by simp] at h
  exact h
theorem rk_start (w : World) (f : Bk) :
    Rk w ((((w.alloc (.cells (tabV .u8 16 f) 22)).alloc (.cells (tabV .u8 256 sb) 100)).alloc (.cells (tabV .u8 176 (fun _ => 0)) 127)).alloc (.cells (tabV .u8 176 (fun _ => 0)) 135)) f (col f 0) := by
  obtain ⟨h0, h1, h2, h3⟩ := new4 w (.cells (tabV .u8 16 f) 22) (.cells (tabV .u8 256 sb) 100) (.cells (tabV .u8 176 (fun _ => 0)) 127) (.cells (tabV .u8 176 (fun _ => 0)) 135)
  refine ⟨Arr.congr (f := fun _ => 0) h3 (fun i _ => ?_), h0, h1, h2, (((Ext.alloc _ _).tr (Ext.alloc _ _)).tr (Ext.alloc _ _)).tr (Ext.alloc _ _)⟩
  unfold col
  rw [if_neg (by omega)]

set_option maxRecDepth 100000 in
set_option maxHeartbeats 8000000 in
theorem rkeys_c (f : Bk) (hf : Byt f) (w : World) :
    Calls Tryz.prog 96 #[.agg (tabV .u8 16 f), .agg (tabV .u8 256 sb)] w fun e w' => e = .returned (.agg (tabV .u8 176 (kf f))) ∧ Ext w w' := by
  have HF := Lib.hid hf
  have zk := zero_ks
  have zc := zero_col
  clear hf
  go_enter Tryz.func96, Tryz.ntmps96
  go_wp2_with fail
  go_loopw [6, 7] (fun p v wr => ∃ i : Nat, i ≤ 44 ∧ v = .int .i64 i ∧ p = .int .u8 (gp 2 ((i + 3) / 4 - 1) : Nat) ∧ Rk w wr f (col f i)) (fun _ v _ => 44 - (intOf v).toNat)
  case atStart => exact ⟨0, by omega, rfl, by rw [gp]; rfl, rk_start w f⟩
  case round =>
    obtain ⟨i, hi, rfl, rfl, hR⟩ := hrel
    by_cases hlt : i < 44
    · have i1 : (i : Int) < 44 := by omega
      obtain ⟨pw, hpw⟩ : ∃ pw, pw = gp 2 ((i + 3) / 4 - 1) := ⟨_, rfl⟩
      rw [← hpw]
      have HPW := Lib.hid hpw
      clear hpw
      by_cases h4 : i < 4
      · have i4 : (i : Int) < 4 := by omega
        rw [col_r] at hR
        have HR := Lib.hid hR
        clear hR
        go_wp2_with fail
        go_loopw [8] (fun v wr => ∃ r : Nat, r ≤ 4 ∧ v = .int .i64 r ∧ Rk w wr f (colr f i r)) (fun v _ => 4 - (intOf v).toNat)
        case atStart => exact ⟨0, by omega, rfl, HR.out⟩
        case round =>
          obtain ⟨r, hr, rfl, hR⟩ := hrel
          by_cases hlr : r < 4
          · obtain ⟨wd, hwd⟩ : ∃ wd, wd = wr.drew := ⟨_, rfl⟩
            have hR1 := hR.ext (show Ext wr wd by rw [hwd]; exact Ext.drew _)
            have c0 := hR1.2.1.cell (i := 4 * i + r) (by omega)
            have c1 := hR1.1.cell (i := i * 4 + r) (by omega)
            have f1 := hR1.1.free (i * 4 + r)
            have q1 : IntKind.i64.wrap (4 * (i : Int)) = 4 * i := IntWalk.i64_in _ (by omega)
            have q2 : IntKind.i64.wrap (4 * (i : Int) + (r : Int)) = 4 * i + r := IntWalk.i64_in _ (by omega)
            have t1 : (4 * (i : Int) + (r : Int)).toNat = 4 * i + r := by omega
            have l1 : 4 * (i : Int) + (r : Int) < 16 := by omega
            have l2 : (r : Int) < 4 := by omega
            have HR1 := Lib.hid hR1
            have HWD := Lib.hid hwd
            clear hR hR1 hwd
            go_wp2_with fail
            refine wp_region_ord 9 (fun W => W = wd) (by kernel_rfl) (by kernel_rfl) (by decide) (by kernel_rfl) HWD.out.symm ?_
            simp only [List.take_succ_cons, List.take_zero, List.drop_succ_cons, List.drop_zero]
            repeat (refine wpTxt_stay ?_ (fun K hK => ?_) rfl ?_; rotate_left; (simp only [Act.put, List.setIfInBounds_toArray, List.set_cons_zero, List.set_cons_succ] at hK; go_simp; exact hK); simp only [Act.put, List.setIfInBounds_toArray, List.set_cons_zero, List.set_cons_succ])
            refine wpTxt_nil ?_
            rintro W rfl
            go_wp2_with fail
            refine ⟨⟨r + 1, by omega, by go_num, HR1.out.set_ hlt hlr (by rw [kf_low f (by omega)]) (by omega)⟩, ?_⟩
            simp only [intOf]
            omega
          · have e4 : r = 4 := by omega
            subst e4
            rw [colr_4] at hR
            have HR := Lib.hid hR
            clear hR
            go_wp2_with fail
            go_roundw
            case rel => exact ⟨i + 1, by omega, by go_num, by rw [HPW.out, show (i + 3) / 4 - 1 = 0 by omega, show (i + 1 + 3) / 4 - 1 = 0 by omega], HR.out⟩
            case measure => simp [intOf]; omega
      · have i4 : ¬ (i : Int) < 4 := by omega
        have l4 : 4 ≤ (i : Int) := by omega
        have l5 : 1 ≤ (i : Int) := by omega
        have q1 : IntKind.i64.wrap ((i : Int) - 1) = (i : Int) - 1 := IntWalk.i64_in _ (by omega)
        have t1 : ((i : Int) - 1).toNat = i - 1 := by omega
        have l1 : (i : Int) - 1 < 44 := by omega
        have l3 : 0 ≤ (i : Int) - 1 := by omega
        have hpart := hR.1.part (off := (i - 1) * 4) (n := 4) (by omega)
        rw [tabV_congr (f' := fun k => kf f (4 * (i - 1) + k)) (fun k hk => by
          unfold col
          rw [if_pos (by omega)]
          congr 1
          omega)] at hpart
        have HP := Lib.hid hpart
        have hR2 := hR
        rw [col_r] at hR2
        have HR := Lib.hid hR2
        have HZ := Lib.hid (Arr.new wr 134 .u8 4 (fun _ => 0))
        have HP2 : Hid ((wr.alloc (.cells (tabV .u8 4 (fun _ => 0)) 134)).rangeAt (w.heap.size + 1 + 1 + 1) ((i - 1) * 4) (tabV .u8 4 (fun k => kf f (4 * (i - 1) + k))).toList) := Lib.hid (World.rangeAt_alloc HP.out _)
        have HGL0 := Lib.hid (show w.heap.size + 1 + 1 + 1 < wr.heap.size from hR.1.lt)
        clear hpart hR hR2
        go_upto_region 11 with fail
        refine wp_region_lit ?_
        refine wpList_plain rfl fun K hK => ?_
        go_simp
        refine hK _ _ ?_
        clear hK K
        refine wpList_plain rfl fun K hK => ?_
        go_simp
        refine hK _ _ ?_
        clear hK K
        refine wpList_plain rfl fun K hK => ?_
        go_simp
        refine hK _ _ ?_
        clear hK K
        refine wpList_load_pt rfl 134 (.tmp 35) rfl (w.heap.size + 1 + 1 + 1) ((i - 1) * 4) rfl .u8 4 (fun k => kf f (4 * (i - 1) + k)) _ HP.out Tryz.underlying134 size_q ?_
        simp only [Act.put, List.setIfInBounds_toArray, List.set_cons_zero, List.set_cons_succ]
        refine wpList_plain rfl fun K hK => ?_
        go_simp
        refine hK _ _ ?_
        clear hK K
        refine wpList_store_arr' rfl rfl 134 (.tmp 9) (.tmp 36) rfl wr.heap.size .u8 4 (fun k => kf f (4 * (i - 1) + k)) rfl rfl 134 _ HZ.out size_q tabV_size ?_
        intro w2 hA2 hG2
        have HT2 := Lib.hid hA2
        have HR2 := Lib.hid ((HR.out.ext (Ext.alloc _ _)).grown HGL0.out hG2)
        clear hA2 hG2
        refine wpList_nil ?_
        obtain ⟨gt, hgt⟩ : ∃ gt, gt = wr.heap.size := ⟨_, rfl⟩
        rw [← hgt] at HT2 HGL0 ⊢
        have HGL := Lib.hid HGL0.out
        clear hgt HP HZ HP2 HR HGL0
        by_cases h40 : i % 4 = 0
        · have b40 := beq_t (show (i : Int) % 4 = 0 by omega)
          go_wp2_with fail
          obtain ⟨wd, hwd⟩ : ∃ wd, wd = w2.drew := ⟨_, rfl⟩
          have xd : Ext w2 wd := by rw [hwd]; exact Ext.drew _
          have hT1 := HT2.out.ext xd
          have hR1 := HR2.out.ext xd
          have hb : ∀ k, kf f (4 * (i - 1) + k) < 256 := fun k => kf_byt HF.out
          have a0 := hT1.cell (i := 0) (by decide)
          have a1 := hT1.cell (i := 1) (by decide)
          have a2 := hT1.cell (i := 2) (by decide)
          have a3 := hT1.cell (i := 3) (by decide)
          have b0 := hR1.2.2.1.cell (i := kf f (4 * (i - 1) + 0)) (hb 0)
          have b1 := hR1.2.2.1.cell (i := kf f (4 * (i - 1) + 1)) (hb 1)
          have b2 := hR1.2.2.1.cell (i := kf f (4 * (i - 1) + 2)) (hb 2)
          have b3 := hR1.2.2.1.cell (i := kf f (4 * (i - 1) + 3)) (hb 3)
          have htt : ∀ r, r < 4 → q4 (sb (kf f (4 * (i - 1) + 1)) ^^^ pw) (sb (kf f (4 * (i - 1) + 2))) (sb (kf f (4 * (i - 1) + 3))) (sb (kf f (4 * (i - 1) + 0))) r = tt f i r := by
            intro r hr
            unfold tt
            rw [if_pos h40]
            have hp := HPW.out
            rw [show (i + 3) / 4 - 1 = i / 4 - 1 by omega] at hp
            rcases (show r = 0 ∨ r = 1 ∨ r = 2 ∨ r = 3 by omega) with rfl | rfl | rfl | rfl
            · rw [if_pos rfl, ← hp]; rfl
            · rw [if_neg (by decide), Nat.xor_zero]; rfl
            · rw [if_neg (by decide), Nat.xor_zero]; rfl
            · rw [if_neg (by decide), Nat.xor_zero]; rfl
          have s0 := hb 0
          have s1 := hb 1
          have s2 := hb 2
          have s3 := hb 3
          obtain ⟨x0, hx0⟩ : ∃ x, x = kf f (4 * (i - 1) + 0) := ⟨_, rfl⟩
          obtain ⟨x1, hx1⟩ : ∃ x, x = kf f (4 * (i - 1) + 1) := ⟨_, rfl⟩
          obtain ⟨x2, hx2⟩ : ∃ x, x = kf f (4 * (i - 1) + 2) := ⟨_, rfl⟩
          obtain ⟨x3, hx3⟩ : ∃ x, x = kf f (4 * (i - 1) + 3) := ⟨_, rfl⟩
          rw [← hx0] at a0 b0 s0
          rw [← hx1] at a1 b1 s1
          rw [← hx2] at a2 b2 s2
          rw [← hx3] at a3 b3 s3
          rw [← hx0, ← hx1, ← hx2, ← hx3] at htt
          have hpl : pw < 256 := by rw [HPW.out]; exact gp_lt (by decide) _
          have q0 := u8_xor_nat _ _ (sb_lt x1 s1) hpl
          have k0 : (x0 : Int) < 256 := by omega
          have k1 : (x1 : Int) < 256 := by omega
          have k2 : (x2 : Int) < 256 := by omega
          have k3 : (x3 : Int) < 256 := by omega
          have hpw2 : gm 2 pw = gp 2 ((i + 1 + 3) / 4 - 1) := by
            rw [HPW.out, gm_comm (by decide) (gp_lt (by decide) _), show (i + 1 + 3) / 4 - 1 = ((i + 3) / 4 - 1) + 1 by omega, gp]
          have HTT := Lib.hid htt
          have HT1 := Lib.hid hT1
          have HR1 := Lib.hid hR1
          have HWD := Lib.hid hwd
          have HPW2 := Lib.hid hpw2
          clear hT1 hR1 hwd htt hpw2 hx0 hx1 hx2 hx3 hb xd HT2 HR2
          refine wp_region_ord 19 (fun W => W = wd) (by kernel_rfl) (by kernel_rfl) (by decide) (by kernel_rfl) HWD.out.symm ?_
          simp only [List.take_succ_cons, List.take_zero, List.drop_succ_cons, List.drop_zero]
          repeat (refine wpTxt_stay ?_ (fun K hK => ?_) rfl ?_; rotate_left; (simp only [Act.put, List.setIfInBounds_toArray, List.set_cons_zero, List.set_cons_succ] at hK; go_simp; exact hK); simp only [Act.put, List.setIfInBounds_toArray, List.set_cons_zero, List.set_cons_succ])
          refine wpTxt_nil ?_
          rintro W rfl
          go_wp2_with (refine wpList_store_arr' rfl rfl 134 (.tmp 9) (.tmp 58) rfl gt .u8 4 (q4 (sb x1 ^^^ pw) (sb x2) (sb x3) (sb x0)) rfl rfl 134 _ HT1.out size_q tabV_size ?_
                       intro w3 hA3 hG3
                       have HTN := Lib.hid hA3
                       have HRN := Lib.hid (HR1.out.grown HGL.out hG3)
                       clear hA3 hG3)
          refine (twice_c pw hpl _).mono ?_
          rintro e w4 ⟨rfl, rfl⟩
          clear a0 a1 a2 a3 b0 b1 b2 b3 q0 k0 k1 k2 k3 HT1 HR1 HWD
          go_wp2_with fail
          go_loopw [10] (fun v wi => ∃ r : Nat, r ≤ 4 ∧ v = .int .i64 r ∧ Rk w wi f (colr f i r) ∧ Arr wi gt 134 .u8 4 (q4 (sb x1 ^^^ pw) (sb x2) (sb x3) (sb x0))) (fun v _ => 4 - (intOf v).toNat)
          case atStart => exact ⟨0, by omega, rfl, HRN.out, HTN.out⟩
          case round =>
            obtain ⟨r, hr, rfl, hR, hT⟩ := hrel
            by_cases hlr : r < 4
            · obtain ⟨wd, hwd⟩ : ∃ wd, wd = wr.drew := ⟨_, rfl⟩
              have xd : Ext wr wd := by rw [hwd]; exact Ext.drew _
              have hR1 := hR.ext xd
              have hT1 := hT.ext xd
              have c0 := hR1.1.cell (i := (i - 4) * 4 + r) (by omega)
              have e0 : colr f i r ((i - 4) * 4 + r) = kf f (4 * (i - 4) + r) := by
                unfold colr
                rw [if_pos (by omega)]
                congr 1
                omega
              rw [e0] at c0
              have c1 := hR1.1.cell (i := i * 4 + r) (by omega)
              have f1 := hR1.1.free (i * 4 + r)
              have c2 := hT1.cell (i := r) hlr
              have e2 := HTT.out r hlr
              rw [e2] at c2
              have hk := kf_rec f (i := i) (r := r) (by omega) hlr
              have b0 := kf_byt HF.out (i := 4 * (i - 4) + r)
              have b2 := tt_byt HF.out (i := i) (r := r)
              have q0 := u8_xor_nat _ _ b0 b2
              rw [← hk] at q0
              obtain ⟨y, hy⟩ : ∃ y, y = kf f (4 * (i - 4) + r) := ⟨_, rfl⟩
              obtain ⟨z, hz⟩ : ∃ z, z = tt f i r := ⟨_, rfl⟩
              rw [← hy] at c0 q0
              rw [← hz] at c2 q0
              have q1 : IntKind.i64.wrap ((i : Int) - 4) = (i : Int) - 4 := IntWalk.i64_in _ (by omega)
              have t1 : ((i : Int) - 4).toNat = i - 4 := by omega
              have l1 : (i : Int) - 4 < 44 := by omega
              have l2 : (r : Int) < 4 := by omega
              have l3 : 0 ≤ (i : Int) - 4 := by omega
              have l4 : 4 ≤ (i : Int) := by omega
              have HR1 := Lib.hid hR1
              have HT1 := Lib.hid hT1
              have HWD := Lib.hid hwd
              clear hR hT hR1 hT1 hwd xd e0 e2 hk b0 b2 hy hz
              go_wp2_with fail
              refine wp_region_ord 13 (fun W => W = wd) (by kernel_rfl) (by kernel_rfl) (by decide) (by kernel_rfl) HWD.out.symm ?_
              simp only [List.take_succ_cons, List.take_zero, List.drop_succ_cons, List.drop_zero]
              repeat (refine wpTxt_stay ?_ (fun K hK => ?_) rfl ?_; rotate_left; (simp only [Act.put, List.setIfInBounds_toArray, List.set_cons_zero, List.set_cons_succ] at hK; go_simp; exact hK); simp only [Act.put, List.setIfInBounds_toArray, List.set_cons_zero, List.set_cons_succ])
              refine wpTxt_nil ?_
              rintro W rfl
              go_wp2_with fail
              refine ⟨⟨r + 1, by omega, by go_num, HR1.out.set_ hlt hlr rfl (by omega), HT1.out.other (by have := HGL.out; omega) _ _⟩, ?_⟩
              simp only [intOf]
              omega
            · have e4 : r = 4 := by omega
              subst e4
              rw [colr_4] at hR
              have HR := Lib.hid hR
              clear hR hT
              go_wp2_with fail
              go_roundw
              case rel => exact ⟨i + 1, by omega, by go_num, by rw [HPW2.out], HR.out⟩
              case measure => simp [intOf]; omega
        · have b40 := beq_f (show (i : Int) % 4 ≠ 0 by omega)
          have htt : ∀ r, r < 4 → (fun k => kf f (4 * (i - 1) + k)) r = tt f i r := by
            intro r hr
            unfold tt
            rw [if_neg h40]
          have HTT := Lib.hid htt
          have HTN := Lib.hid HT2.out
          have HRN := Lib.hid HR2.out
          have hpw2 : pw = gp 2 ((i + 1 + 3) / 4 - 1) := by rw [HPW.out, show (i + 1 + 3) / 4 - 1 = (i + 3) / 4 - 1 by omega]
          have HPW2 := Lib.hid hpw2
          clear htt hpw2
          go_wp2_with fail
          go_loopw [10] (fun v wi => ∃ r : Nat, r ≤ 4 ∧ v = .int .i64 r ∧ Rk w wi f (colr f i r) ∧ Arr wi gt 134 .u8 4 (fun k => kf f (4 * (i - 1) + k))) (fun v _ => 4 - (intOf v).toNat)
          case atStart => exact ⟨0, by omega, rfl, HRN.out, HTN.out⟩
          case round =>
            obtain ⟨r, hr, rfl, hR, hT⟩ := hrel
            by_cases hlr : r < 4
            · obtain ⟨wd, hwd⟩ : ∃ wd, wd = wr.drew := ⟨_, rfl⟩
              have xd : Ext wr wd := by rw [hwd]; exact Ext.drew _
              have hR1 := hR.ext xd
              have hT1 := hT.ext xd
              have c0 := hR1.1.cell (i := (i - 4) * 4 + r) (by omega)
              have e0 : colr f i r ((i - 4) * 4 + r) = kf f (4 * (i - 4) + r) := by
                unfold colr
                rw [if_pos (by omega)]
                congr 1
                omega
              rw [e0] at c0
              have c1 := hR1.1.cell (i := i * 4 + r) (by omega)
              have f1 := hR1.1.free (i * 4 + r)
              have c2 := hT1.cell (i := r) hlr
              have e2 := HTT.out r hlr
              rw [e2] at c2
              have hk := kf_rec f (i := i) (r := r) (by omega) hlr
              have b0 := kf_byt HF.out (i := 4 * (i - 4) + r)
              have b2 := tt_byt HF.out (i := i) (r := r)
              have q0 := u8_xor_nat _ _ b0 b2
              rw [← hk] at q0
              obtain ⟨y, hy⟩ : ∃ y, y = kf f (4 * (i - 4) + r) := ⟨_, rfl⟩
              obtain ⟨z, hz⟩ : ∃ z, z = tt f i r := ⟨_, rfl⟩
              rw [← hy] at c0 q0
              rw [← hz] at c2 q0
              have q1 : IntKind.i64.wrap ((i : Int) - 4) = (i : Int) - 4 := IntWalk.i64_in _ (by omega)
              have t1 : ((i : Int) - 4).toNat = i - 4 := by omega
              have l1 : (i : Int) - 4 < 44 := by omega
              have l2 : (r : Int) < 4 := by omega
              have l3 : 0 ≤ (i : Int) - 4 := by omega
              have l4 : 4 ≤ (i : Int) := by omega
              have HR1 := Lib.hid hR1
              have HT1 := Lib.hid hT1
              have HWD := Lib.hid hwd
              clear hR hT hR1 hT1 hwd xd e0 e2 hk b0 b2 hy hz
              go_wp2_with fail
              refine wp_region_ord 13 (fun W => W = wd) (by kernel_rfl) (by kernel_rfl) (by decide) (by kernel_rfl) HWD.out.symm ?_
              simp only [List.take_succ_cons, List.take_zero, List.drop_succ_cons, List.drop_zero]
              repeat (refine wpTxt_stay ?_ (fun K hK => ?_) rfl ?_; rotate_left; (simp only [Act.put, List.setIfInBounds_toArray, List.set_cons_zero, List.set_cons_succ] at hK; go_simp; exact hK); simp only [Act.put, List.setIfInBounds_toArray, List.set_cons_zero, List.set_cons_succ])
              refine wpTxt_nil ?_
              rintro W rfl
              go_wp2_with fail
              refine ⟨⟨r + 1, by omega, by go_num, HR1.out.set_ hlt hlr rfl (by omega), HT1.out.other (by have := HGL.out; omega) _ _⟩, ?_⟩
              simp only [intOf]
              omega
            · have e4 : r = 4 := by omega
              subst e4
              rw [colr_4] at hR
              have HR := Lib.hid hR
              clear hR hT
              go_wp2_with fail
              go_roundw
              case rel => exact ⟨i + 1, by omega, by go_num, by rw [HPW2.out], HR.out⟩
              case measure => simp [intOf]; omega
    · have e44 : i = 44 := by omega
      have i1 : ¬ (i : Int) < 44 := by omega
      have hR := hR
      rw [e44] at hR
      have HR := Lib.hid (hR.congr (F' := kf f) (fun j hj => by unfold col; rw [if_pos (by omega)]))
      have HGL := Lib.hid (show w.heap.size + 1 + 1 + 1 < wr.heap.size from hR.1.lt)
      have HZ := Lib.hid (Arr.new wr 127 .u8 176 (fun _ => 0))
      clear hR
      obtain ⟨pw, hpw⟩ : ∃ pw, pw = gp 2 ((i + 3) / 4 - 1) := ⟨_, rfl⟩
      rw [← hpw]
      clear hpw e44
      go_wp2_with fail
      obtain ⟨go, hgo⟩ : ∃ go, go = wr.heap.size := ⟨_, rfl⟩
      obtain ⟨w2, hw2⟩ : ∃ w2, w2 = wr.alloc (.cells (tabV .u8 176 (fun _ => 0)) 127) := ⟨_, rfl⟩
      have HR2 : Hid (Rk w w2 f (kf f)) := Lib.hid (by rw [hw2]; exact HR.out.ext (Ext.alloc _ _))
      have HO2 : Hid (Arr w2 go 127 .u8 176 (fun _ => 0)) := Lib.hid (by rw [hw2, hgo]; exact HZ.out)
      rw [← hgo] at HGL
      rw [← hgo, ← hw2]
      clear hgo hw2 HR HZ
      go_loopw [12] (fun v wi => ∃ j : Nat, j ≤ 176 ∧ v = .int .i64 j ∧ Arr wi go 127 .u8 176 (fun m => if m < j then kf f m else 0) ∧ Rk w wi f (kf f)) (fun v _ => 176 - (intOf v).toNat)
      case atStart => exact ⟨0, by omega, rfl, HO2.out.congr (fun m _ => by rw [if_neg (by omega)]), HR2.out⟩
      case round =>
        obtain ⟨j, hj, rfl, hO, hR⟩ := hrel
        by_cases hlj : j < 176
        · obtain ⟨wd, hwd⟩ : ∃ wd, wd = wr.drew := ⟨_, rfl⟩
          have xd : Ext wr wd := by rw [hwd]; exact Ext.drew _
          obtain ⟨a, ha⟩ : ∃ a, a = j / 16 := ⟨_, rfl⟩
          obtain ⟨b, hb⟩ : ∃ b, b = j % 16 := ⟨_, rfl⟩
          obtain ⟨c, hc⟩ : ∃ c, c = j / 4 := ⟨_, rfl⟩
          obtain ⟨d, hd⟩ : ∃ d, d = j % 4 := ⟨_, rfl⟩
          have hO1 := hO.ext xd
          have hR1 := hR.ext xd
          have c0 := hR1.1.cell (i := c * 4 + d) (by omega)
          rw [show kf f (c * 4 + d) = kf f j by congr 1; omega] at c0
          have c1 := hO1.cell (i := a * 16 + b) (by omega)
          have f1 := hO1.free (a * 16 + b)
          have m1 : (j : Int).tdiv 16 = (a : Int) := by rw [Int.tdiv_eq_ediv_of_nonneg (by omega)]; omega
          have m2 : (j : Int).tmod 16 = (b : Int) := by rw [Int.tmod_eq_emod_of_nonneg (by omega)]; omega
          have m3 : (j : Int).tdiv 4 = (c : Int) := by rw [Int.tdiv_eq_ediv_of_nonneg (by omega)]; omega
          have m4 : (j : Int).tmod 4 = (d : Int) := by rw [Int.tmod_eq_emod_of_nonneg (by omega)]; omega
          have n1 : (j : Int) / 16 = (a : Int) := by omega
          have n3 : (j : Int) / 4 = (c : Int) := by omega
          have q1 : IntKind.i64.wrap (a : Int) = (a : Int) := IntWalk.i64_in _ (by omega)
          have q3 : IntKind.i64.wrap (c : Int) = (c : Int) := IntWalk.i64_in _ (by omega)
          have k1 : (a : Int) < 11 := by omega
          have k2 : (b : Int) < 16 := by omega
          have k3 : (c : Int) < 44 := by omega
          have k4 : (d : Int) < 4 := by omega
          have k5 : (j : Int) < 176 := by omega
          obtain ⟨y, hy⟩ : ∃ y, y = kf f j := ⟨_, rfl⟩
          rw [← hy] at c0
          have HY := Lib.hid hy
          have HOFF := Lib.hid (show a * 16 + b = j by omega)
          have HO1 := Lib.hid hO1
          have HR1 := Lib.hid hR1
          have HWD := Lib.hid hwd
          clear hO hR hO1 hR1 hwd xd ha hb hc hd hy
          go_wp2_with fail
          refine wp_region_ord 12 (fun W => W = wd) (by kernel_rfl) (by kernel_rfl) (by decide) (by kernel_rfl) HWD.out.symm ?_
          simp only [List.take_succ_cons, List.take_zero, List.drop_succ_cons, List.drop_zero]
          repeat (refine wpTxt_stay ?_ (fun K hK => ?_) rfl ?_; rotate_left; (simp only [Act.put, List.setIfInBounds_toArray, List.set_cons_zero, List.set_cons_succ] at hK; go_simp; exact hK); simp only [Act.put, List.setIfInBounds_toArray, List.set_cons_zero, List.set_cons_succ])
          refine wpTxt_nil ?_
          rintro W rfl
          go_wp2_with fail
          have hoff := HOFF.out
          have hgl := HGL.out
          refine ⟨⟨j + 1, by omega, by go_num, HO1.out.to (by omega) (by rw [if_pos (by omega), HY.out, hoff]) (fun m _ hne => ?_), HR1.out.far hgl rfl _⟩, ?_⟩
          · by_cases hm : m < j
            · rw [if_pos hm, if_pos (by omega)]
            · rw [if_neg hm, if_neg (by omega)]
          · simp only [intOf]
            omega
        · have e176 : j = 176 := by omega
          subst e176
          have HO := Lib.hid (hO.congr (f' := kf f) (fun m hm => by rw [if_pos hm]))
          have HR := Lib.hid hR
          clear hO hR
          go_wp2_with (first
            | refine wpList_load_row rfl 127 (.tmp 11) rfl go rfl 127 (tabV .u8 176 (kf f)) (0, 0) _ HO.out Tryz.underlying127 rfl (by rw [tabV_size]; exact size_ks) ?_
            | (refine wpList_store_arr' rfl rfl 127 (.tmp 4) (.tmp 96) rfl (w.heap.size + 1 + 1) .u8 176 (kf f) rfl rfl 127 _ HR.out.2.2.2.1 size_ks tabV_size ?_; intro w5 hA5 hG5))
          refine bodyPost_ret (v := .agg (tabV .u8 176 (kf f))) ?_ rfl ⟨rfl, grown_new HR.out.2.2.2.2 hG5 (fun g hg => by simp at hg; omega)⟩
          exact results_cell_row rfl _ _ _ _ _ _ _ rfl hA5 Tryz.underlying127 rfl (by rw [tabV_size]; exact size_ks)
end Go.Proofs.YtagegigffohcbaaGreatDoor

namespace Go.Proofs.YtagegigffohcbaaGreatDoor
open Go.RowKit
set_option linter.unusedVariables false
set_option linter.unusedSimpArgs false

/-- the bytes that are there: column c, up to row r -/
def prt (g : Bk) (c r : Nat) : Bk := fun j => if j < 4 * c + r then g j else 0
theorem prt_4 (g : Bk) (c : Nat) : prt g c 4 = prt g (c + 1) 0 := by
  funext j
  unfold prt
  by_cases h : j < 4 * c + 4
  · rw [if_pos h, if_pos (by omega)]
  · rw [if_neg h, if_neg (by omega)]
theorem Arr.prt_set {w : World} {b : Nat} {t : TypeId} {g : Bk} {c r : Nat} (h : Arr w b t .u8 16 (prt g c r)) (hc : c < 4) (hr : r < 4) {v : Int} {off : Nat} (ho : off = 4 * c + r) (hv : v = (g (4 * c + r) : Nat)) :
    Arr (w.setCell ⟨b, off, none⟩ (.int .u8 v)) b t .u8 16 (prt g c (r + 1)) := by
  subst ho
  refine h.to (by omega) (by rw [hv]; unfold prt; rw [if_pos (by omega)]) (fun j _ hne => ?_)
  unfold prt
  by_cases h1 : j < 4 * c + r
  · rw [if_pos h1, if_pos (by omega)]
  · rw [if_neg h1, if_neg (by omega)]
/-- the blocks of the reference's Round -/
def Rr (w wr : World) (f k : Bk) (S : Nat → Nat) : Prop :=
  Arr wr (w.heap.size + 1 + 1 + 1 + 1) 22 .u8 16 S ∧ Arr wr w.heap.size 22 .u8 16 f ∧ Arr wr (w.heap.size + 1) 22 .u8 16 k ∧ Arr wr (w.heap.size + 1 + 1) 100 .u8 256 sb ∧
    Arr wr (w.heap.size + 1 + 1 + 1) 22 .u8 16 (fun _ => 0) ∧ Ext w wr
theorem Rr.ext {w wr wr' : World} {f k : Bk} {S : Nat → Nat} (h : Rr w wr f k S) (hx : Ext wr wr') : Rr w wr' f k S := ⟨h.1.ext hx, h.2.1.ext hx, h.2.2.1.ext hx, h.2.2.2.1.ext hx, h.2.2.2.2.1.ext hx, h.2.2.2.2.2.tr hx⟩
theorem Rr.far {w wr : World} {f k : Bk} {S : Nat → Nat} (h : Rr w wr f k S) {g o : Nat} (hp : w.heap.size + 1 + 1 + 1 + 1 < g) (u : Value) : Rr w (wr.setCell ⟨g, o, none⟩ u) f k S :=
  ⟨h.1.other (by omega) _ _, h.2.1.other (by omega) _ _, h.2.2.1.other (by omega) _ _, h.2.2.2.1.other (by omega) _ _, h.2.2.2.2.1.other (by omega) _ _, ext_setCell h.2.2.2.2.2 (by simp; omega) _⟩
theorem Rr.set_ {w wr : World} {f k : Bk} {g : Bk} {c r : Nat} (h : Rr w wr f k (prt g c r)) (hc : c < 4) (hr : r < 4) {v : Int} {off : Nat} (ho : off = 4 * c + r) (hv : v = (g (4 * c + r) : Nat)) :
    Rr w (wr.setCell ⟨w.heap.size + 1 + 1 + 1 + 1, off, none⟩ (.int .u8 v)) f k (prt g c (r + 1)) :=
  ⟨h.1.prt_set hc hr ho hv, h.2.1.other (by omega) _ _, h.2.2.1.other (by omega) _ _, h.2.2.2.1.other (by omega) _ _, h.2.2.2.2.1.other (by omega) _ _, ext_setCell h.2.2.2.2.2 (by simp; omega) _⟩
theorem new5 (w : World) (o p q r s : Obj) : (((((w.alloc o).alloc p).alloc q).alloc r).alloc s).heap[w.heap.size]? = some o ∧ (((((w.alloc o).alloc p).alloc q).alloc r).alloc s).heap[w.heap.size + 1]? = some p ∧
    (((((w.alloc o).alloc p).alloc q).alloc r).alloc s).heap[w.heap.size + 1 + 1]? = some q ∧ (((((w.alloc o).alloc p).alloc q).alloc r).alloc s).heap[w.heap.size + 1 + 1 + 1]? = some r ∧
    (((((w.alloc o).alloc p).alloc q).alloc r).alloc s).heap[w.heap.size + 1 + 1 + 1 + 1]? = some s := by
  obtain ⟨h1, h2, h3, h4⟩ := new4 w o p q r
  have x1 := (Ext.alloc ((((w.alloc o).alloc p).alloc q).alloc r) s)
  refine ⟨x1.get h1, x1.get h2, x1.get h3, x1.get h4, ?_⟩
  have h := new_of ((((w.alloc o).alloc p).alloc q).alloc r) s
  rw [show ((((w.alloc o).alloc p).alloc q).alloc r).heap.size = w.heap.size + 1 + 1 + 1 + 1 by simp] at h
  exact h
theorem rr_start (w : World) (f k g : Bk) :
    Rr w (((((w.alloc (.cells (tabV .u8 16 f) 22)).alloc (.cells (tabV .u8 16 k) 22)).alloc (.cells (tabV .u8 256 sb) 100)).alloc (.cells (tabV .u8 16 (fun _ => 0)) 22)).alloc (.cells (tabV .u8 16 (fun _ => 0)) 22)) f k (prt g 0 0) := by
  obtain ⟨h0, h1, h2, h3, h4⟩ := new5 w (.cells (tabV .u8 16 f) 22) (.cells (tabV .u8 16 k) 22) (.cells (tabV .u8 256 sb) 100) (.cells (tabV .u8 16 (fun _ => 0)) 22) (.cells (tabV .u8 16 (fun _ => 0)) 22)
  refine ⟨Arr.congr (f := fun _ => 0) h4 (fun i _ => ?_), h0, h1, h2, h3, ((((Ext.alloc _ _).tr (Ext.alloc _ _)).tr (Ext.alloc _ _)).tr (Ext.alloc _ _)).tr (Ext.alloc _ _)⟩
  unfold prt
  rw [if_neg (by omega)]
theorem rnd_last (f k : Bk) {i : Nat} : rnd f k true i = mv 1 (ea sb f) i ^^^ k i := rfl
theorem tm4 (r k s : Nat) (h : s = (r + k) % 4) : ((r : Int) + (k : Int)).tmod 4 = (s : Int) := by rw [Int.tmod_eq_emod_of_nonneg (by omega)]; omega
theorem a4 {s d : Nat} (hs : s < 4) (hd : d < 4) : IntKind.i64.wrap ((s : Int) + 4 * (d : Int)) = (s : Int) + 4 * (d : Int) ∧ ((s : Int) + 4 * (d : Int)).toNat = s + 4 * d ∧ (s : Int) + 4 * (d : Int) < 16 ∧ s + 4 * d < 16 ∧ 4 * d + s = s + 4 * d :=
  ⟨IntWalk.i64_in _ (by omega), by omega, by omega, by omega, by omega⟩
theorem wad {r : Nat} (hr : r < 4) : IntKind.i64.wrap ((r : Int) + 1) = (r : Int) + 1 ∧ IntKind.i64.wrap ((r : Int) + 2) = (r : Int) + 2 ∧ IntKind.i64.wrap ((r : Int) + 3) = (r : Int) + 3 :=
  ⟨IntWalk.i64_in _ (by omega), IntWalk.i64_in _ (by omega), IntWalk.i64_in _ (by omega)⟩
theorem em4 (r s : Nat) (h : s = (r + 1) % 4) : ((r : Int) + 1) % 4 = (s : Int) := by omega
theorem meas4 {r : Nat} (h : r < 4) : 4 - (intOf (Value.int .i64 ((r : Int) + 1))).toNat < 4 - (intOf (Value.int .i64 (r : Int))).toNat := by
  simp only [intOf]
  omega
theorem gm13 : ∀ x < 256, gm 1 x = x ∧ gm 3 x = gm 2 x ^^^ x := by decide +kernel
theorem rnd_mid (f k : Bk) (hf : Byt f) {c r : Nat} (hc : c < 4) (hr : r < 4) : rnd f k false (4 * c + r) =
    ((((gm 2 (mv 1 (ea sb f) (4 * c + r)) ^^^ gm 2 (mv 1 (ea sb f) (4 * c + (r + 1) % 4))) ^^^ mv 1 (ea sb f) (4 * c + (r + 1) % 4)) ^^^ mv 1 (ea sb f) (4 * c + (r + 2) % 4)) ^^^ mv 1 (ea sb f) (4 * c + (r + 3) % 4)) ^^^ k (4 * c + r) := by
  show mx b1 (mv 1 (ea sb f)) (4 * c + r) ^^^ k (4 * c + r) = _
  rw [mx_m4 b1 _ hr]
  have hs := mv_byt 1 (ea_sb hf)
  obtain ⟨s, hse⟩ : ∃ s, s = mv 1 (ea sb f) := ⟨_, rfl⟩
  rw [← hse] at hs ⊢
  have h1 := (gm13 _ (hs (4 * c + (r + 1) % 4) (by omega))).2
  have h2 := (gm13 _ (hs (4 * c + (r + 2) % 4) (by omega))).1
  have h3 := (gm13 _ (hs (4 * c + (r + 3) % 4) (by omega))).1
  show (gm 2 (s (4 * c + r)) ^^^ (gm 3 (s (4 * c + (r + 1) % 4)) ^^^ (gm 1 (s (4 * c + (r + 2) % 4)) ^^^ gm 1 (s (4 * c + (r + 3) % 4))))) ^^^ k (4 * c + r) = _
  rw [h1, h2, h3]
  simp only [Nat.xor_assoc]
theorem Rr.congr {w wr : World} {f k : Bk} {F F' : Nat → Nat} (h : Rr w wr f k F) (hF : ∀ i, i < 16 → F i = F' i) : Rr w wr f k F' := ⟨h.1.congr hF, h.2⟩

set_option maxRecDepth 100000 in
set_option maxHeartbeats 8000000 in
theorem rround_c (f k : Bk) (hf : Byt f) (hk : Byt k) (last : Bool) (w : World) :
    Calls Tryz.prog 97 #[.agg (tabV .u8 16 f), .agg (tabV .u8 16 k), .bool last, .agg (tabV .u8 256 sb)] w fun e w' => e = .returned (.agg (tabV .u8 16 (rnd f k last))) ∧ Ext w w' := by
  have HF := Lib.hid hf
  have HK := Lib.hid hk
  clear hf hk
  go_enter Tryz.func97, Tryz.ntmps97
  go_wp2_with fail
  go_loopw [10] (fun v wr => ∃ c : Nat, c ≤ 4 ∧ v = .int .i64 c ∧ Rr w wr f k (prt (mv 1 (ea sb f)) c 0)) (fun v _ => 4 - (intOf v).toNat)
  case atStart => exact ⟨0, by omega, rfl, rr_start w f k _⟩
  case round =>
    obtain ⟨c, hc, rfl, hR⟩ := hrel
    by_cases hlt : c < 4
    · have i1 : (c : Int) < 4 := by omega
      have HR := Lib.hid hR
      clear hR
      go_wp2_with fail
      go_loopw [11] (fun v wi => ∃ r : Nat, r ≤ 4 ∧ v = .int .i64 r ∧ Rr w wi f k (prt (mv 1 (ea sb f)) c r)) (fun v _ => 4 - (intOf v).toNat)
      case atStart => exact ⟨0, by omega, rfl, HR.out⟩
      case round =>
        obtain ⟨r, hr, rfl, hR⟩ := hrel
        by_cases hlr : r < 4
        · obtain ⟨s, hs⟩ : ∃ s, s = (c + r) % 4 := ⟨_, rfl⟩
          have c0 := hR.2.1.cell (i := r + 4 * s) (by omega)
          have hb := HF.out (r + 4 * s) (by omega)
          have c1 := hR.2.2.2.1.cell (i := f (r + 4 * s)) hb
          have c2 := hR.1.cell (i := r + 4 * c) (by omega)
          have f2 := hR.1.free (r + 4 * c)
          have hv : sb (f (r + 4 * s)) = mv 1 (ea sb f) (4 * c + r) := by
            unfold mv ea
            rw [show (4 * c + r) % 4 + 4 * (((4 * c + r) / 4 + 1 * ((4 * c + r) % 4)) % 4) = r + 4 * s by omega]
          obtain ⟨x, hx⟩ : ∃ x, x = f (r + 4 * s) := ⟨_, rfl⟩
          rw [← hx] at c0 c1 hb hv
          have m0 : ((c : Int) + (r : Int)).tmod 4 = (s : Int) := by rw [Int.tmod_eq_emod_of_nonneg (by omega)]; omega
          have m1 : ((c : Int) + (r : Int)) % 4 = (s : Int) := by omega
          have q1 : IntKind.i64.wrap (4 * (c : Int)) = 4 * c := IntWalk.i64_in _ (by omega)
          have q2 : IntKind.i64.wrap ((r : Int) + 4 * (c : Int)) = r + 4 * c := IntWalk.i64_in _ (by omega)
          have q3 : IntKind.i64.wrap ((c : Int) + (r : Int)) = c + r := IntWalk.i64_in _ (by omega)
          have q4 : IntKind.i64.wrap (4 * (s : Int)) = 4 * s := IntWalk.i64_in _ (by omega)
          have q5 : IntKind.i64.wrap ((r : Int) + 4 * (s : Int)) = r + 4 * s := IntWalk.i64_in _ (by omega)
          have t2 : ((r : Int) + 4 * (c : Int)).toNat = r + 4 * c := by omega
          have t5 : ((r : Int) + 4 * (s : Int)).toNat = r + 4 * s := by omega
          have l1 : (r : Int) + 4 * (c : Int) < 16 := by omega
          have l2 : (r : Int) + 4 * (s : Int) < 16 := by omega
          have l3 : (x : Int) < 256 := by omega
          have l4 : (r : Int) < 4 := by omega
          have HV := Lib.hid hv
          have HR := Lib.hid hR
          clear hR hv hx hs
          go_wp2_with fail
          go_roundw
          case rel => exact ⟨r + 1, by omega, by go_num, HR.out.set_ hlt hlr (by omega) (by rw [HV.out])⟩
          case measure => simp [intOf]; omega
        · have e4 : r = 4 := by omega
          subst e4
          rw [prt_4] at hR
          have HR := Lib.hid hR
          clear hR
          go_wp2_with fail
          go_roundw
          case rel => exact ⟨c + 1, by omega, by go_num, HR.out⟩
          case measure => simp [intOf]; omega
    · have e4 : c = 4 := by omega
      have i1 : ¬ (c : Int) < 4 := by omega
      rw [e4] at hR
      have HR := Lib.hid (hR.congr (F' := mv 1 (ea sb f)) (fun j hj => by unfold prt; rw [if_pos (by omega)]))
      have HGL := Lib.hid (show w.heap.size + 1 + 1 + 1 + 1 < wr.heap.size from hR.1.lt)
      have HZ := Lib.hid (Arr.new wr 22 .u8 16 (fun _ => 0))
      have hsb := mv_byt 1 (ea_sb HF.out)
      have hmid := fun c r (hc : c < 4) (hr : r < 4) => rnd_mid f k HF.out hc hr
      have hlast := fun i => rnd_last f k (i := i)
      obtain ⟨s, hs⟩ : ∃ s, s = mv 1 (ea sb f) := ⟨_, rfl⟩
      rw [← hs] at HR hsb hmid hlast
      have HSB := Lib.hid hsb
      have HMID := Lib.hid hmid
      have HLAST := Lib.hid hlast
      clear hR e4 hsb hmid hlast hs
      go_wp2_with fail
      obtain ⟨go, hgo⟩ : ∃ go, go = wr.heap.size := ⟨_, rfl⟩
      obtain ⟨w2, hw2⟩ : ∃ w2, w2 = wr.alloc (.cells (tabV .u8 16 (fun _ => 0)) 22) := ⟨_, rfl⟩
      have HR2 : Hid (Rr w w2 f k s) := Lib.hid (by rw [hw2]; exact HR.out.ext (Ext.alloc _ _))
      have HO2 : Hid (Arr w2 go 22 .u8 16 (fun _ => 0)) := Lib.hid (by rw [hw2, hgo]; exact HZ.out)
      rw [← hgo] at HGL
      change Code.wp _ _ _ _ (wr.alloc (.cells (tabV .u8 16 (fun _ => 0)) 22))
      rw [← hgo, ← hw2]
      clear hgo hw2 HR HZ
      go_loopw [13] (fun v wi => ∃ c : Nat, c ≤ 4 ∧ v = .int .i64 c ∧ Arr wi go 22 .u8 16 (prt (rnd f k last) c 0) ∧ Rr w wi f k s) (fun v _ => 4 - (intOf v).toNat)
      case atStart => exact ⟨0, by omega, rfl, HO2.out.congr (fun j _ => by unfold prt; rw [if_neg (by omega)]), HR2.out⟩
      case round =>
        obtain ⟨d, hd, rfl, hO, hR⟩ := hrel
        by_cases hld : d < 4
        · have i2 : (d : Int) < 4 := by omega
          have HO := Lib.hid hO
          have HR := Lib.hid hR
          clear hO hR
          go_wp2_with fail
          go_loopw [14] (fun v wi => ∃ r : Nat, r ≤ 4 ∧ v = .int .i64 r ∧ Arr wi go 22 .u8 16 (prt (rnd f k last) d r) ∧ Rr w wi f k s) (fun v _ => 4 - (intOf v).toNat)
          case atStart => exact ⟨0, by omega, rfl, HO.out, HR.out⟩
          case round =>
            obtain ⟨r, hr, rfl, hO, hR⟩ := hrel
            by_cases hlr : r < 4
            · have a0 := hR.1.cell (i := r + 4 * d) (by omega)
              rw [show r + 4 * d = 4 * d + r by omega] at a0
              rw [← show r + 4 * d = 4 * d + r by omega] at a0
              have ak := hR.2.2.1.cell (i := r + 4 * d) (by omega)
              have ao := hO.cell (i := r + 4 * d) (by omega)
              have fo := hO.free (r + 4 * d)
              have hx0 := HSB.out (r + 4 * d) (by omega)
              have hkb := HK.out (r + 4 * d) (by omega)
              have q1 : IntKind.i64.wrap (4 * (d : Int)) = 4 * d := IntWalk.i64_in _ (by omega)
              have q2 : IntKind.i64.wrap ((r : Int) + 4 * (d : Int)) = r + 4 * d := IntWalk.i64_in _ (by omega)
              have t2 : ((r : Int) + 4 * (d : Int)).toNat = r + 4 * d := by omega
              have l1 : (r : Int) + 4 * (d : Int) < 16 := by omega
              have l4 : (r : Int) < 4 := by omega
              cases last with
              | true =>
                have hv := HLAST.out (r + 4 * d)
                obtain ⟨x0, hxe⟩ : ∃ x, x = s (r + 4 * d) := ⟨_, rfl⟩
                obtain ⟨y, hye⟩ : ∃ y, y = k (r + 4 * d) := ⟨_, rfl⟩
                rw [← hxe] at a0 hx0 hv
                rw [← hye] at ak hkb hv
                have q0 := u8_xor_nat _ _ hx0 hkb
                have HV := Lib.hid hv
                have HO := Lib.hid hO
                have HR := Lib.hid hR
                clear hO hR hv hxe hye
                go_wp2_with fail
                go_roundw
                case rel => exact ⟨r + 1, by omega, by go_num, HO.out.prt_set hld hlr (by omega) (by rw [show 4 * d + r = r + 4 * d by omega, HV.out]), HR.out.far HGL.out _⟩
                case measure => simp [intOf]; omega
              | false =>
                obtain ⟨s1, hs1⟩ : ∃ s1, s1 = (r + 1) % 4 := ⟨_, rfl⟩
                obtain ⟨s2, hs2⟩ : ∃ s2, s2 = (r + 2) % 4 := ⟨_, rfl⟩
                obtain ⟨s3, hs3⟩ : ∃ s3, s3 = (r + 3) % 4 := ⟨_, rfl⟩
                have n1 := em4 r s1 hs1
                have k1 : s1 < 4 := by rw [hs1]; exact Nat.mod_lt _ (by decide)
                have k2 : s2 < 4 := by rw [hs2]; exact Nat.mod_lt _ (by decide)
                have k3 : s3 < 4 := by rw [hs3]; exact Nat.mod_lt _ (by decide)
                obtain ⟨w1', w2', w3'⟩ := wad hlr
                obtain ⟨p1, t11, l11, o1, e1⟩ := a4 k1 hld
                obtain ⟨p2, t12, l12, o2, e2⟩ := a4 k2 hld
                obtain ⟨p3, t13, l13, o3, e3⟩ := a4 k3 hld
                obtain ⟨_, _, _, o0, e0⟩ := a4 hlr hld
                obtain ⟨wd, hwd⟩ : ∃ wd, wd = wr.drew := ⟨_, rfl⟩
                have xd : Ext wr wd := by rw [hwd]; exact Ext.drew _
                have a1 := hR.1.cell (i := s1 + 4 * d) o1
                have a2 := (hR.ext xd).1.cell (i := s2 + 4 * d) o2
                have a3 := (hR.ext xd).1.cell (i := s3 + 4 * d) o3
                have ak2 := (hR.ext xd).2.2.1.cell (i := r + 4 * d) o0
                have ao2 := (hO.ext xd).cell (i := r + 4 * d) o0
                have fo2 := (hO.ext xd).free (r + 4 * d)
                have hx1 := HSB.out (s1 + 4 * d) o1
                have hx2 := HSB.out (s2 + 4 * d) o2
                have hx3 := HSB.out (s3 + 4 * d) o3
                have hv := HMID.out d r hld hlr
                rw [← hs1, ← hs2, ← hs3, e0, e1, e2, e3] at hv
                obtain ⟨x0, hxe⟩ : ∃ x, x = s (r + 4 * d) := ⟨_, rfl⟩
                obtain ⟨x1, hxe1⟩ : ∃ x, x = s (s1 + 4 * d) := ⟨_, rfl⟩
                obtain ⟨x2, hxe2⟩ : ∃ x, x = s (s2 + 4 * d) := ⟨_, rfl⟩
                obtain ⟨x3, hxe3⟩ : ∃ x, x = s (s3 + 4 * d) := ⟨_, rfl⟩
                obtain ⟨y, hye⟩ : ∃ y, y = k (r + 4 * d) := ⟨_, rfl⟩
                rw [← hxe] at a0 hx0 hv
                rw [← hxe1] at a1 hx1 hv
                rw [← hxe2] at a2 hx2 hv
                rw [← hxe3] at a3 hx3 hv
                rw [← hye] at ak ak2 hkb hv
                have g0 := gm_lt (show 2 < 256 by decide) hx0
                have g1 := gm_lt (show 2 < 256 by decide) hx1
                have ht0 := fun W => twice_c x0 hx0 W
                have ht1 := fun W => twice_c x1 hx1 W
                obtain ⟨y0, hy0⟩ : ∃ y, y = gm 2 x0 := ⟨_, rfl⟩
                obtain ⟨y1, hy1⟩ : ∃ y, y = gm 2 x1 := ⟨_, rfl⟩
                rw [← hy0] at g0 ht0 hv
                rw [← hy1] at g1 ht1 hv
                have b1 := u8_xor_nat _ _ g0 g1
                have g2 := xor8 g0 g1
                obtain ⟨z1, hz1⟩ : ∃ z, z = y0 ^^^ y1 := ⟨_, rfl⟩
                rw [← hz1] at b1 g2 hv
                have b2 := u8_xor_nat _ _ g2 hx1
                have g3 := xor8 g2 hx1
                obtain ⟨z2, hz2⟩ : ∃ z, z = z1 ^^^ x1 := ⟨_, rfl⟩
                rw [← hz2] at b2 g3 hv
                have b3 := u8_xor_nat _ _ g3 hx2
                have g4 := xor8 g3 hx2
                obtain ⟨z3, hz3⟩ : ∃ z, z = z2 ^^^ x2 := ⟨_, rfl⟩
                rw [← hz3] at b3 g4 hv
                have b4 := u8_xor_nat _ _ g4 hx3
                have g5 := xor8 g4 hx3
                obtain ⟨z4, hz4⟩ : ∃ z, z = z3 ^^^ x3 := ⟨_, rfl⟩
                rw [← hz4] at b4 g5 hv
                have b5 := u8_xor_nat _ _ g5 hkb
                obtain ⟨z5, hz5⟩ : ∃ z, z = z4 ^^^ y := ⟨_, rfl⟩
                rw [← hz5] at b5 hv
                have HT0 := Lib.hid ht0
                have HT1 := Lib.hid ht1
                clear hy0 hy1 hz1 hz2 hz3 hz4 hz5 g0 g1 g2 g3 g4 g5 ht0 ht1
                have m2 : ((r : Int) + 2).tmod 4 = (s2 : Int) := tm4 r 2 s2 hs2
                have m3 : ((r : Int) + 3).tmod 4 = (s3 : Int) := tm4 r 3 s3 hs3
                have HV := Lib.hid hv
                have HO := Lib.hid (hO.ext xd)
                have HR := Lib.hid (hR.ext xd)
                have HWD := Lib.hid hwd
                have HE0 := Lib.hid e0
                have HO0 := Lib.hid o0
                clear hO hR hv hxe hxe1 hxe2 hxe3 hye hs1 hs2 hs3 xd hwd e0 e1 e2 e3 o0 o1 o2 o3 k1 k2 k3
                go_wp2_with fail
                clear n1 w1' p1 t11 l11 a0 a1 ak ao fo hx0 hx1 hx2 hx3 hkb
                refine wp_region_ord 25 (fun W => W = wd) (by kernel_rfl) (by kernel_rfl) (by decide) (by kernel_rfl) HWD.out.symm ?_
                simp only [List.take_succ_cons, List.take_zero, List.drop_succ_cons, List.drop_zero]
                repeat (refine wpTxt_stay ?_ (fun K hK => ?_) rfl ?_; rotate_left; (simp only [Act.put, List.setIfInBounds_toArray, List.set_cons_zero, List.set_cons_succ] at hK; go_simp; exact hK); simp only [Act.put, List.setIfInBounds_toArray, List.set_cons_zero, List.set_cons_succ])
                refine wpTxt_stay ?_ (fun K hK => ?_) rfl ?_
                rotate_left
                · simp only [Act.put, List.setIfInBounds_toArray, List.set_cons_zero, List.set_cons_succ] at hK
                  go_simp
                  refine (HT0.out _).mono ?_
                  rintro e v ⟨rfl, rfl⟩
                  exact hK
                simp only [Act.put, List.setIfInBounds_toArray, List.set_cons_zero, List.set_cons_succ]
                repeat (refine wpTxt_stay ?_ (fun K hK => ?_) rfl ?_; rotate_left; (simp only [Act.put, List.setIfInBounds_toArray, List.set_cons_zero, List.set_cons_succ] at hK; go_simp; exact hK); simp only [Act.put, List.setIfInBounds_toArray, List.set_cons_zero, List.set_cons_succ])
                refine wpTxt_stay ?_ (fun K hK => ?_) rfl ?_
                rotate_left
                · simp only [Act.put, List.setIfInBounds_toArray, List.set_cons_zero, List.set_cons_succ] at hK
                  go_simp
                  refine (HT1.out _).mono ?_
                  rintro e v ⟨rfl, rfl⟩
                  exact hK
                simp only [Act.put, List.setIfInBounds_toArray, List.set_cons_zero, List.set_cons_succ]
                repeat (refine wpTxt_stay ?_ (fun K hK => ?_) rfl ?_; rotate_left; (simp only [Act.put, List.setIfInBounds_toArray, List.set_cons_zero, List.set_cons_succ] at hK; go_simp; exact hK); simp only [Act.put, List.setIfInBounds_toArray, List.set_cons_zero, List.set_cons_succ])
                refine wpTxt_nil ?_
                rintro W rfl
                go_wp2_with fail
                refine ⟨⟨r + 1, hlr, by go_num, HO.out.prt_set hld hlr HE0.out.symm (by rw [HE0.out, HV.out]), HR.out.far HGL.out _⟩, ?_⟩
                exact meas4 hlr
            · have e4 : r = 4 := by omega
              subst e4
              rw [prt_4] at hO
              have HO := Lib.hid hO
              have HR := Lib.hid hR
              clear hO hR
              go_wp2_with fail
              go_roundw
              case rel => exact ⟨d + 1, by omega, by go_num, HO.out, HR.out⟩
              case measure => simp [intOf]; omega
        · have e4 : d = 4 := by omega
          have i2 : ¬ (d : Int) < 4 := by omega
          rw [e4] at hO
          have HO := Lib.hid (hO.congr (f' := rnd f k last) (fun j hj => by unfold prt; rw [if_pos (by omega)]))
          have HR := Lib.hid hR
          clear hO hR e4
          go_wp2_with (first
            | refine wpList_load_arr rfl 22 (.tmp 12) rfl go rfl 22 .u8 16 (rnd f k last) _ HO.out Tryz.underlying22 size_bk ?_
            | (refine wpList_store_arr' rfl rfl 22 (.tmp 8) (.tmp 103) rfl (w.heap.size + 1 + 1 + 1) .u8 16 (rnd f k last) rfl rfl 22 _ HR.out.2.2.2.2.1 size_bk tabV_size ?_; intro w5 hA5 hG5))
          refine bodyPost_ret (v := .agg (tabV .u8 16 (rnd f k last))) ?_ rfl ⟨rfl, grown_new HR.out.2.2.2.2.2 hG5 (fun g hg => by simp at hg; omega)⟩
          exact results_cell_row rfl _ _ _ _ _ _ _ rfl hA5 Tryz.underlying22 rfl (by rw [tabV_size]; exact size_bk)
end Go.Proofs.YtagegigffohcbaaGreatDoor

namespace Go.Proofs.YtagegigffohcbaaGreatDoor
open Go.RowKit
set_option linter.unusedVariables false
set_option linter.unusedSimpArgs false

/-- the blocks of the reference's Encrypt -/
def Re (w wr : World) (k : Bk) (gk : Nat) (F : Nat → Nat) : Prop :=
  Arr wr (w.heap.size + 1) 22 .u8 16 F ∧ Arr wr gk 127 .u8 176 (kf k) ∧ Arr wr (w.heap.size + 1 + 1) 100 .u8 256 sb ∧ Arr wr (w.heap.size + 1 + 1 + 1) 22 .u8 16 (fun _ => 0) ∧ Ext w wr
theorem Re.ext {w wr wr' : World} {k : Bk} {gk : Nat} {F : Nat → Nat} (h : Re w wr k gk F) (hx : Ext wr wr') : Re w wr' k gk F := ⟨h.1.ext hx, h.2.1.ext hx, h.2.2.1.ext hx, h.2.2.2.1.ext hx, h.2.2.2.2.tr hx⟩
theorem Re.congr {w wr : World} {k : Bk} {gk : Nat} {F F' : Nat → Nat} (h : Re w wr k gk F) (hF : ∀ i, i < 16 → F i = F' i) : Re w wr k gk F' := ⟨h.1.congr hF, h.2⟩
theorem Re.to {w wr : World} {k : Bk} {gk : Nat} {F F' : Nat → Nat} (h : Re w wr k gk F) (hg : w.heap.size + 1 + 1 + 1 < gk) {i : Nat} (hi : i < 16) {v : Int} (hv : v = (F' i : Nat)) (hf : ∀ j, j < 16 → j ≠ i → F j = F' j) : Re w (wr.setCell ⟨w.heap.size + 1, i, none⟩ (.int .u8 v)) k gk F' :=
  ⟨h.1.to hi hv hf, h.2.1.other (by omega) _ _, h.2.2.1.other (by omega) _ _, h.2.2.2.1.other (by omega) _ _, ext_setCell h.2.2.2.2 (by simp) _⟩
theorem Re.stored {w wr wr' : World} {k : Bk} {gk : Nat} {F F' : Nat → Nat} (h : Re w wr k gk F) (hg : w.heap.size + 1 + 1 + 1 < gk) (hA : Arr wr' (w.heap.size + 1) 22 .u8 16 F') (hG : wr.grownBy wr' (some (w.heap.size + 1))) : Re w wr' k gk F' :=
  ⟨hA, grown_get hG h.2.1 (by simp; omega), grown_get hG h.2.2.1 (by simp), grown_get hG h.2.2.2.1 (by simp), grown_new h.2.2.2.2 hG (fun g hg => by simp at hg; omega)⟩
theorem wp_load_box {o : Oper} {a : Act} {w : World} {K : Act → World → Prop} {Q : Exit → Act → World → Prop} (x : Operand) (ho : o.op = .load 100 x)
    (g : Nat) (hx : a.eval x = .pointer (some ⟨g, 0, none⟩)) (f : Nat → Nat) (t : TypeId) (hg : Arr w g t .u8 256 f) (h : K (a.put o.dst (.agg (tabV .u8 256 f))) w) : o.wp Tryz.prog a w K Q :=
  wp_load_arr 100 x ho g hx .u8 256 f 5 t hg Tryz.underlying100 size_box h
set_option maxRecDepth 100000 in
set_option maxHeartbeats 8000000 in
theorem rencrypt_c (k b : Bk) (hk : Byt k) (hb : Byt b) (w : World) :
    Calls Tryz.prog 86 #[.agg (tabV .u8 16 k), .agg (tabV .u8 16 b), .agg (tabV .u8 256 sb)] w fun e w' => e = .returned (.agg (tabV .u8 16 (enc k b))) ∧ Ext w w' := by
  have HK := Lib.hid hk
  have HB := Lib.hid hb
  obtain ⟨h0, h1, h2, h3⟩ := new4 w (.cells (tabV .u8 16 k) 22) (.cells (tabV .u8 16 b) 22) (.cells (tabV .u8 256 sb) 100) (.cells (tabV .u8 16 (fun _ => 0)) 22)
  have hx0 := (((Ext.alloc w (.cells (tabV .u8 16 k) 22)).tr (Ext.alloc _ (.cells (tabV .u8 16 b) 22))).tr (Ext.alloc _ (.cells (tabV .u8 256 sb) 100))).tr (Ext.alloc _ (.cells (tabV .u8 16 (fun _ => 0)) 22))
  have H0 := Lib.hid (show Arr _ w.heap.size 22 .u8 16 k from h0)
  have H1 := Lib.hid (show Arr _ (w.heap.size + 1) 22 .u8 16 b from h1)
  have H2 := Lib.hid (show Arr _ (w.heap.size + 1 + 1) 100 .u8 256 sb from h2)
  have H3 := Lib.hid (show Arr _ (w.heap.size + 1 + 1 + 1) 22 .u8 16 (fun _ => 0) from h3)
  have HX0 := Lib.hid hx0
  have zk := zero_ks
  clear hk hb h0 h1 h2 h3 hx0
  go_enter Tryz.func86, Tryz.ntmps86
  go_wp2_with (first
    | refine wpList_load_arr rfl 22 (.tmp 3) rfl w.heap.size rfl 22 .u8 16 k _ H0.out Tryz.underlying22 size_bk ?_
    | refine wpList_load_arr rfl 100 (.tmp 5) rfl (w.heap.size + 1 + 1) rfl 100 .u8 256 sb _ H2.out Tryz.underlying100 size_box ?_)
  refine (rkeys_c k HK.out _).mono ?_
  rintro e w1 ⟨rfl, hx1⟩
  have HB1 := Lib.hid (H1.out.ext hx1)
  have HC1 := Lib.hid (H2.out.ext hx1)
  have HD1 := Lib.hid (H3.out.ext hx1)
  have HX1 := Lib.hid (HX0.out.tr hx1)
  have HZ := Lib.hid (Arr.new w1 127 .u8 176 (fun _ => 0))
  clear hx1 H0 H1 H2 H3 HX0
  go_wp2_with (refine wpList_store_arr' rfl rfl 127 (.tmp 7) (.tmp 12) rfl w1.heap.size .u8 176 (kf k) rfl rfl 127 _ HZ.out size_ks tabV_size ?_
               intro w2 hA2 hG2
               have hgl := HD1.out.lt
               have HR2 : Hid (Re w w2 k w1.heap.size b) := Lib.hid ⟨grown_get hG2 (HB1.out.ext (Ext.alloc _ _)) (by simp; omega), hA2, grown_get hG2 (HC1.out.ext (Ext.alloc _ _)) (by simp; omega), grown_get hG2 (HD1.out.ext (Ext.alloc _ _)) (by simp; omega), HX1.out.tr (grown_new (Ext.alloc _ _) hG2 (fun g hg => by simp at hg; omega))⟩
               have HGL := Lib.hid hgl
               clear hA2 hG2 hgl)
  obtain ⟨gk, hgk⟩ : ∃ gk, gk = w1.heap.size := ⟨_, rfl⟩
  rw [← hgk] at HR2 HGL ⊢
  clear hgk HB1 HC1 HD1 HX1 HZ
  go_loopw [8] (fun v wr => ∃ i : Nat, i ≤ 16 ∧ v = .int .i64 i ∧ Re w wr k gk (fun j => if j < i then xo b k j else b j)) (fun v _ => 16 - (intOf v).toNat)
  case atStart => exact ⟨0, by omega, rfl, HR2.out.congr (fun j _ => by rw [if_neg (by omega)])⟩
  case round =>
    obtain ⟨i, hi, rfl, hR⟩ := hrel
    by_cases hlt : i < 16
    · obtain ⟨wd, hwd⟩ : ∃ wd, wd = wr.drew := ⟨_, rfl⟩
      have hR1 := hR.ext (show Ext wr wd by rw [hwd]; exact Ext.drew _)
      have c0 := hR1.1.cell (i := i) hlt
      rw [if_neg (by omega)] at c0
      have c1 := hR1.2.1.cell (i := i) (by omega)
      rw [kf_low k hlt] at c1
      have f0 := hR1.1.free i
      have q0 := u8_xor_nat _ _ (HB.out i hlt) (HK.out i hlt)
      obtain ⟨z, hz⟩ : ∃ z, z = b i ^^^ k i := ⟨_, rfl⟩
      rw [← hz] at q0
      have HZZ := Lib.hid hz
      have i1 : (i : Int) < 16 := by omega
      have HR := Lib.hid hR1
      have HWD := Lib.hid hwd
      clear hR hR1 hwd hz
      go_wp2_with fail
      refine wp_region_ord 9 (fun W => W = wd) (by kernel_rfl) (by kernel_rfl) (by decide) (by kernel_rfl) HWD.out.symm ?_
      simp only [List.take_succ_cons, List.take_zero, List.drop_succ_cons, List.drop_zero]
      repeat (refine wpTxt_stay ?_ (fun K hK => ?_) rfl ?_; rotate_left; (simp only [Act.put, List.setIfInBounds_toArray, List.set_cons_zero, List.set_cons_succ] at hK; go_simp; exact hK); simp only [Act.put, List.setIfInBounds_toArray, List.set_cons_zero, List.set_cons_succ])
      refine wpTxt_nil ?_
      rintro W rfl
      go_wp2_with fail
      refine ⟨⟨i + 1, by omega, by go_num, HR.out.to HGL.out hlt (by rw [if_pos (by omega), HZZ.out]; rfl) (fun j _ hne => ?_)⟩, ?_⟩
      · by_cases hj : j < i
        · rw [if_pos hj, if_pos (by omega)]
        · rw [if_neg hj, if_neg (by omega)]
      · simp only [intOf]
        omega
    · have e16 : i = 16 := by omega
      have i1 : ¬ (i : Int) < 16 := by omega
      have HR : Hid (Re w wr k gk (est k b 0)) := Lib.hid (hR.congr (fun j hj => by rw [if_pos (by omega)]; rfl))
      clear hR e16
      go_wp2_with fail
      go_loopw [9] (fun v wi => ∃ n : Nat, 1 ≤ n ∧ n ≤ 11 ∧ v = .int .i64 n ∧ Re w wi k gk (est k b (n - 1))) (fun v _ => 11 - (intOf v).toNat)
      case atStart => exact ⟨1, by omega, by omega, rfl, HR.out⟩
      case round =>
        obtain ⟨n, h1, hn, rfl, hR⟩ := hrel
        by_cases hlt2 : n < 11
        · obtain ⟨wd, hwd⟩ : ∃ wd, wd = wr.drew := ⟨_, rfl⟩
          have i2 : (n : Int) ≤ 10 := by omega
          have i3 : (n : Int) < 11 := by omega
          have HR1 := Lib.hid (hR.ext (show Ext wr wd by rw [hwd]; exact Ext.drew _))
          have HWD := Lib.hid hwd
          clear hR hwd
          go_wp2_with fail
          refine wp_region_ord 8 (fun W => Ext wd W) (by kernel_rfl) (by kernel_rfl) (by decide) (by kernel_rfl) (by rw [HWD.out]; exact Ext.refl _) ?_
          simp only [List.take_succ_cons, List.take_zero, List.drop_succ_cons, List.drop_zero]
          refine wpTxt_step (.agg (tabV .u8 16 (est k b (n - 1)))) (fun W K hS hK => wp_load_arr 22 (.tmp 4) rfl (w.heap.size + 1) rfl .u8 16 (est k b (n - 1)) _ _ (HR1.out.1.ext hS) Tryz.underlying22 size_bk (hK _ hS)) rfl ?_
          simp only [Act.put, List.setIfInBounds_toArray, List.set_cons_zero, List.set_cons_succ]
          repeat (refine wpTxt_step ?_ (fun W K hS hK => ?_) rfl ?_; rotate_left; (simp only [Act.put, List.setIfInBounds_toArray, List.set_cons_zero, List.set_cons_succ] at hK; go_simp; exact hK _ hS); simp only [Act.put, List.setIfInBounds_toArray, List.set_cons_zero, List.set_cons_succ])
          refine wpTxt_step (.agg (tabV .u8 16 (kys k n))) (fun W K hS hK => wp_load_part 22 (.tmp 33) rfl gk (n * 16) rfl .u8 16 (kys k n) 5 (key_part (HR1.out.2.1.ext hS) hlt2) Tryz.underlying22 size_bk (hK _ hS)) rfl ?_
          simp only [Act.put, List.setIfInBounds_toArray, List.set_cons_zero, List.set_cons_succ]
          repeat (refine wpTxt_step ?_ (fun W K hS hK => ?_) rfl ?_; rotate_left; (simp only [Act.put, List.setIfInBounds_toArray, List.set_cons_zero, List.set_cons_succ] at hK; go_simp; exact hK _ hS); simp only [Act.put, List.setIfInBounds_toArray, List.set_cons_zero, List.set_cons_succ])
          refine wpTxt_step (.agg (tabV .u8 256 sb)) (fun W K hS hK => wp_load_box (.tmp 5) rfl (w.heap.size + 1 + 1) rfl sb _ (HR1.out.2.2.1.ext hS) (hK _ hS)) rfl ?_
          simp only [Act.put, List.setIfInBounds_toArray, List.set_cons_zero, List.set_cons_succ]
          refine wpTxt_step ?_ (fun W K hS hK => ?_) rfl ?_
          rotate_left
          · simp only [Act.put, List.setIfInBounds_toArray, List.set_cons_zero, List.set_cons_succ] at hK
            go_simp
            refine (rround_c (est k b (n - 1)) (kys k n) (est_byt HK.out HB.out _) (kys_byt HK.out _) ((n : Int) == 10) _).mono ?_
            rintro e W' ⟨rfl, hx'⟩
            exact hK _ (hS.tr hx')
          simp only [Act.put, List.setIfInBounds_toArray, List.set_cons_zero, List.set_cons_succ]
          refine wpTxt_nil ?_
          intro W hS
          have HR3 := Lib.hid (HR1.out.ext hS)
          clear hS HR1
          go_wp2_with (refine wpList_store_arr' rfl rfl 22 (.tmp 4) (.tmp 38) rfl (w.heap.size + 1) .u8 16 (rnd (est k b (n - 1)) (kys k n) ((n : Int) == 10)) rfl rfl 22 _ HR3.out.1 size_bk tabV_size ?_
                       intro w5 hA5 hG5)
          have e : rnd (est k b (n - 1)) (kys k n) ((n : Int) == 10) = est k b (n + 1 - 1) := by
            obtain ⟨m, rfl⟩ : ∃ m, n = m + 1 := ⟨n - 1, by omega⟩
            rw [Nat.add_sub_cancel, Nat.add_sub_cancel, est]
            congr 1
            exact int_eq10 _
          rw [e] at hA5
          refine ⟨⟨n + 1, by omega, by omega, by go_num, HR3.out.stored HGL.out hA5 hG5⟩, ?_⟩
          simp only [intOf]
          omega
        · have e11 : n = 11 := by omega
          have i2 : ¬ (n : Int) ≤ 10 := by omega
          have HR : Hid (Re w wr k gk (enc k b)) := Lib.hid (by rw [e11] at hR; exact hR)
          clear hR e11
          go_wp2_with (first
            | refine wpList_load_arr rfl 22 (.tmp 4) rfl (w.heap.size + 1) rfl 22 .u8 16 (enc k b) _ HR.out.1 Tryz.underlying22 size_bk ?_
            | (refine wpList_store_arr' rfl rfl 22 (.tmp 6) (.tmp 39) rfl (w.heap.size + 1 + 1 + 1) .u8 16 (enc k b) rfl rfl 22 _ HR.out.2.2.2.1 size_bk tabV_size ?_; intro w5 hA5 hG5))
          refine bodyPost_ret (v := .agg (tabV .u8 16 (enc k b))) ?_ rfl ⟨rfl, grown_new HR.out.2.2.2.2 hG5 (fun g hg => by simp at hg; omega)⟩
          exact results_cell_row rfl _ _ _ _ _ _ _ rfl hA5 Tryz.underlying22 rfl (by rw [tabV_size]; exact size_bk)
end Go.Proofs.YtagegigffohcbaaGreatDoor

namespace Go.Proofs.YtagegigffohcbaaGreatDoor
open Go.RowKit
set_option linter.unusedVariables false
set_option linter.unusedSimpArgs false

/-- the block with k bytes of the nonce and of the number -/
def cinq (nonce : Nat → Nat) (i k : Nat) : Bk := fun j => if j < 8 then (if j < k then nonce j else 0) else if 15 - j < k then i / 256 ^ (15 - j) % 256 else 0
/-- the same with one byte of the nonce more -/
def cinr (nonce : Nat → Nat) (i k : Nat) : Bk := fun j => if j < 8 then (if j < k + 1 then nonce j else 0) else if 15 - j < k then i / 256 ^ (15 - j) % 256 else 0
theorem cinq_zero (nonce : Nat → Nat) (i : Nat) : ∀ j, j < 16 → 0 = cinq nonce i 0 j := fun j _ => by
  unfold cinq
  split
  · rw [if_neg (by omega)]
  · rw [if_neg (by omega)]
theorem cinq_all (nonce : Nat → Nat) (i : Nat) : ∀ j, j < 16 → cinq nonce i 8 j = cin nonce i j := fun j hj => by
  unfold cinq cin
  by_cases h : j < 8
  · rw [if_pos h, if_pos h, if_pos h]
  · rw [if_neg h, if_neg h, if_pos (by omega)]
theorem cinr_at (nonce : Nat → Nat) (i : Nat) {k : Nat} (hk : k < 8) : (nonce k : Int) = ((cinr nonce i k k : Nat) : Int) := by unfold cinr; rw [if_pos hk, if_pos (by omega)]
theorem cinr_other (nonce : Nat → Nat) (i : Nat) {k : Nat} {j : Nat} (hne : j ≠ k) : cinq nonce i k j = cinr nonce i k j := by
  unfold cinq cinr
  split
  · by_cases h : j < k
    · rw [if_pos h, if_pos (by omega)]
    · rw [if_neg h, if_neg (by omega)]
  · rfl
theorem cinq_at (nonce : Nat → Nat) (i : Nat) {k : Nat} (hk : k < 8) : ((i / 256 ^ k : Nat) : Int) % 256 = ((cinq nonce i (k + 1) (15 - k) : Nat) : Int) := by
  unfold cinq
  rw [if_neg (by omega), if_pos (by omega), show 15 - (15 - k) = k by omega, Int.natCast_emod]
  rfl
theorem cinq_other (nonce : Nat → Nat) (i : Nat) {k : Nat} (hk : k < 8) {j : Nat} (hj : j < 16) (hne : j ≠ 15 - k) : cinr nonce i k j = cinq nonce i (k + 1) j := by
  unfold cinq cinr
  split
  · rfl
  · by_cases h : 15 - j < k
    · rw [if_pos h, if_pos (by omega)]
    · rw [if_neg h, if_neg (by omega)]

set_option maxRecDepth 100000 in
set_option maxHeartbeats 2000000 in
theorem rblock_c (key nonce : Nat → Nat) (i : Nat) (hk : Byt key) (hn : Byt8 nonce) (hi : i < 18446744073709551616) (w : World) :
    Calls Tryz.prog 73 #[.agg (tabV .u8 16 key), .agg (tabV .u8 8 nonce), .int .u64 (i : Nat), .agg (tabV .u8 256 sb)] w fun e w' => e = .returned (.agg (tabV .u8 16 (cblk key nonce i))) ∧ Ext w w' := by
  have HK := Lib.hid hk
  have HN := Lib.hid hn
  obtain ⟨h0, h1, h2, h3, h4⟩ := new5 w (.cells (tabV .u8 16 key) 22) (.cells (tabV .u8 8 nonce) 23) (.cells (tabV .u8 256 sb) 100) (.cells (tabV .u8 16 (fun _ => 0)) 22) (.cells (tabV .u8 16 (fun _ => 0)) 22)
  have HX := Lib.hid (((((Ext.alloc w (.cells (tabV .u8 16 key) 22)).tr (Ext.alloc _ (.cells (tabV .u8 8 nonce) 23))).tr (Ext.alloc _ (.cells (tabV .u8 256 sb) 100))).tr (Ext.alloc _ (.cells (tabV .u8 16 (fun _ => 0)) 22))).tr (Ext.alloc _ (.cells (tabV .u8 16 (fun _ => 0)) 22)))
  have H0 := Lib.hid (show Arr _ w.heap.size 22 .u8 16 key from h0)
  have H1 := Lib.hid (show Arr _ (w.heap.size + 1) 23 .u8 8 nonce from h1)
  have H2 := Lib.hid (show Arr _ (w.heap.size + 1 + 1) 100 .u8 256 sb from h2)
  have H3 := Lib.hid (show Arr _ (w.heap.size + 1 + 1 + 1) 22 .u8 16 (fun _ => 0) from h3)
  have H4 := Lib.hid (show Arr _ (w.heap.size + 1 + 1 + 1 + 1) 22 .u8 16 (fun _ => 0) from h4)
  clear hk hn h0 h1 h2 h3 h4
  go_enter Tryz.func73, Tryz.ntmps73
  go_wp2_with fail
  go_loopw [2, 10] (fun x v wr => ∃ k : Nat, k ≤ 8 ∧ v = .int .i64 k ∧ x = .int .u64 (i / 256 ^ k : Nat) ∧ Arr wr (w.heap.size + 1 + 1 + 1 + 1) 22 .u8 16 (cinq nonce i k) ∧ Arr wr w.heap.size 22 .u8 16 key ∧ Arr wr (w.heap.size + 1) 23 .u8 8 nonce ∧
    Arr wr (w.heap.size + 1 + 1) 100 .u8 256 sb ∧ Arr wr (w.heap.size + 1 + 1 + 1) 22 .u8 16 (fun _ => 0) ∧ Ext w wr) (fun _ v _ => 8 - (intOf v).toNat)
  case atStart => exact ⟨0, by omega, rfl, by simp, H4.out.congr (cinq_zero nonce i), H0.out, H1.out, H2.out, H3.out, HX.out⟩
  case round =>
    obtain ⟨k, hk, rfl, rfl, hA, hKy, hNo, hBx, hR, hx⟩ := hrel
    by_cases hlt : k < 8
    · have i1 : (k : Int) < 8 := by omega
      have q1 : IntKind.i64.wrap (15 - (k : Int)) = ((15 - k : Nat) : Int) := by rw [IntWalk.i64_in _ (by omega)]; omega
      have i2 : ((15 - k : Nat) : Int) < 16 := by omega
      have i3 : (k : Int) < 16 := by omega
      have hcn := hNo.cell (i := k) hlt
      have hck := hA.cell (i := k) (by omega)
      have hfk := hA.free k
      have hA2 := hA.to (i := k) (by omega) (cinr_at nonce i hlt) (fun j _ hne => cinr_other nonce i hne)
      have hcj := hA2.cell (i := 15 - k) (by omega)
      have hfj := hA2.free (15 - k)
      obtain ⟨y, hy⟩ : ∃ y, y = i / 256 ^ k := ⟨_, rfl⟩
      have hyb : ((y : Nat) : Int) % 256 = ((cinq nonce i (k + 1) (15 - k) : Nat) : Int) := by rw [hy]; exact cinq_at nonce i hlt
      have hyn : y / 256 = i / 256 ^ (k + 1) := by rw [hy, Nat.div_div_eq_div_mul, Nat.pow_succ]
      rw [← hy]
      have HYB := Lib.hid hyb
      have HYN := Lib.hid hyn
      have HYD := Lib.hid hy
      have HA := Lib.hid (hA2.to (i := 15 - k) (by omega) hyb (fun j hj hne => cinq_other nonce i hlt hj hne))
      have HKY := Lib.hid hKy
      have HNO := Lib.hid hNo
      have HBX := Lib.hid hBx
      have HR := Lib.hid hR
      have HXX := Lib.hid hx
      clear hA hA2 hKy hNo hBx hR hx hyb hyn hy
      have hyl : y < 18446744073709551616 := by rw [HYD.out]; exact Nat.lt_of_le_of_lt (Nat.div_le_self _ _) hi
      have q4 : IntKind.u64.wrap ((y : Int) / 256) = ((y / 256 : Nat) : Int) := by rw [IntKind.wrap_u64]; omega
      go_wp2_with fail
      refine ⟨⟨k + 1, by omega, by go_num, by rw [← HYN.out]; congr 1, HA.out, (HKY.out.other (by omega) _ _).other (by omega) _ _, (HNO.out.other (by omega) _ _).other (by omega) _ _, (HBX.out.other (by omega) _ _).other (by omega) _ _, (HR.out.other (by omega) _ _).other (by omega) _ _, ext_setCell (ext_setCell HXX.out (by simp; omega) _) (by simp; omega) _⟩, ?_⟩
      simp only [intOf]
      omega
    · have e8 : k = 8 := by omega
      subst e8
      have HA := Lib.hid (hA.congr (f' := cin nonce i) (cinq_all nonce i))
      have HKY := Lib.hid hKy
      have HBX := Lib.hid hBx
      have HR := Lib.hid hR
      have HXX := Lib.hid hx
      clear hA hKy hNo hBx hR hx
      go_wp2_with (first
        | refine wpList_load_arr rfl 22 (.tmp 4) rfl w.heap.size rfl 22 .u8 16 key _ HKY.out Tryz.underlying22 size_bk ?_
        | refine wpList_load_arr rfl 22 (.tmp 9) rfl (w.heap.size + 1 + 1 + 1 + 1) rfl 22 .u8 16 (cin nonce i) _ HA.out Tryz.underlying22 size_bk ?_
        | refine wpList_load_arr rfl 100 (.tmp 7) rfl (w.heap.size + 1 + 1) rfl 100 .u8 256 sb _ HBX.out Tryz.underlying100 size_box ?_)
      refine (rencrypt_c key (cin nonce i) HK.out (cin_byt HN.out i) _).mono ?_
      rintro e w4 ⟨rfl, hx4⟩
      have HR4 := Lib.hid (HR.out.ext hx4)
      have HX4 := Lib.hid (HXX.out.tr hx4)
      clear hx4
      go_wp2_with (refine wpList_store_arr' rfl rfl 22 (.tmp 8) (.tmp 31) rfl (w.heap.size + 1 + 1 + 1) .u8 16 (enc key (cin nonce i)) rfl rfl 22 _ HR4.out size_bk tabV_size ?_; intro w5 hA5 hG5)
      refine bodyPost_ret (v := .agg (tabV .u8 16 (enc key (cin nonce i)))) ?_ rfl ⟨rfl, grown_new HX4.out hG5 (fun g hg => by simp at hg; omega)⟩
      exact results_cell_row rfl _ _ _ _ _ _ _ rfl hA5 Tryz.underlying22 rfl (by rw [tabV_size]; exact size_bk)

theorem OwnB.keepG {w w' : World} {E : TypeId} {base c g n : Nat} {A : Option Addr} {l : List UInt8} {k : IntKind} {t : TypeId} {f : Nat → Nat} (h : OwnB w E base A c l) (hb : w.grownBy w' (some g)) (hg : Arr w g t k n f) (hne : t ≠ E) : OwnB w' E base A c l := h.far hb hg hne
theorem rblock_d (key nonce : Nat → Nat) (nx : Nat) (hk : Byt key) (hn : Byt8 nonce) (h : nx < 4611686018427387904) (w : World) :
    Calls Tryz.prog 73 #[.agg (tabV .u8 16 key), .agg (tabV .u8 8 nonce), .int .u64 ((nx : Int) / 16), .agg (tabV .u8 256 sb)] w fun e w' => e = .returned (.agg (tabV .u8 16 (cblk key nonce (nx / 16)))) ∧ Ext w w' := by
  have := rblock_c key nonce (nx / 16) hk hn (by omega) w
  rwa [show ((nx / 16 : Nat) : Int) = (nx : Int) / 16 by omega] at this
set_option maxRecDepth 100000 in
set_option maxHeartbeats 4000000 in
theorem rstream_none (key nonce : Nat → Nat) (at_ n : Int) (h : at_ < 0 ∨ 1099511627776 < at_ ∨ n < 0 ∨ 1048576 < n) (w : World) :
    Calls Tryz.prog 49 #[.agg (tabV .u8 16 key), .agg (tabV .u8 8 nonce), .int .i64 at_, .int .i64 n] w fun e w' => e = .returned (.slice none 0 0) ∧ Ext w w' := by
  have zb := zero_box
  have HX := Lib.hid ((Ext.alloc w (.cells (tabV .u8 16 key) 22)).tr (Ext.alloc _ (.cells (tabV .u8 8 nonce) 23)))
  by_cases t1 : at_ < 0
  rotate_left
  by_cases t2 : 1099511627776 < at_
  rotate_left
  by_cases t3 : n < 0
  rotate_left
  have t4 : 1048576 < n := by rcases h with h | h | h | h <;> first | exact absurd h t1 | exact absurd h t2 | exact absurd h t3 | exact h
  all_goals
    clear h
    go_enter Tryz.func49, Tryz.ntmps49
    go_wp2_with fail
    refine (box_c _).mono ?_
    rintro e w2 ⟨rfl, hx2⟩
    have HX2 := Lib.hid (HX.out.tr hx2)
    clear hx2
    go_wp2_with (refine wpList_store_arr' rfl rfl 100 (.tmp 10) (.tmp 13) rfl w2.heap.size .u8 256 sb rfl rfl 100 _ (Arr.new w2 100 .u8 256 (fun _ => 0)) size_box tabV_size ?_; intro w3 hA3 hG3; have HX3 := Lib.hid (HX2.out.tr (grown_new (Ext.alloc _ _) hG3 (fun g hg => by simp at hg; omega))); clear hA3 hG3)
    go_ret
    exact ⟨rfl, HX3.out⟩

set_option maxRecDepth 100000 in
set_option maxHeartbeats 4000000 in
theorem rstream_c (key nonce : Nat → Nat) (hk : Byt key) (hn : Byt8 nonce) (at_ n : Nat) (ha : at_ ≤ 1099511627776) (hm : n ≤ 1048576) (w : World) :
    Calls Tryz.prog 49 #[.agg (tabV .u8 16 key), .agg (tabV .u8 8 nonce), .int .i64 (at_ : Nat), .int .i64 (n : Nat)] w fun e w' =>
      ∃ A c, e = .returned (.slice A n c) ∧ OwnB w' 5 w.heap.size A c (strm key nonce at_ n) ∧ Ext w w' := by
  have zb := zero_box
  obtain ⟨i0, hi0, hz0, hz1, hz2⟩ := info_parts info_u8
  have t1 : ¬ (at_ : Int) < 0 := by omega
  have t2 : ¬ (1099511627776 : Int) < (at_ : Int) := by omega
  have t3 : ¬ (n : Int) < 0 := by omega
  have t4 : ¬ (1048576 : Int) < (n : Int) := by omega
  obtain ⟨h0, h1⟩ := two_new w (.cells (tabV .u8 16 key) 22) (.cells (tabV .u8 8 nonce) 23)
  have HX := Lib.hid ((Ext.alloc w (.cells (tabV .u8 16 key) 22)).tr (Ext.alloc _ (.cells (tabV .u8 8 nonce) 23)))
  have H0 := Lib.hid (show Arr _ w.heap.size 22 .u8 16 key from h0)
  have H1 := Lib.hid (show Arr _ (w.heap.size + 1) 23 .u8 8 nonce from h1)
  clear h0 h1
  go_enter Tryz.func49, Tryz.ntmps49
  go_wp2_with fail
  refine (box_c _).mono ?_
  rintro e w2 ⟨rfl, hx2⟩
  have HX2 := Lib.hid (HX.out.tr hx2)
  have HK2 := Lib.hid (H0.out.ext hx2)
  have HN2 := Lib.hid (H1.out.ext hx2)
  clear hx2 HX H0 H1
  go_wp2_with (first
    | (refine wpList_store_arr' rfl rfl 100 (.tmp 10) (.tmp 13) rfl w2.heap.size .u8 256 sb rfl rfl 100 _ (Arr.new w2 100 .u8 256 (fun _ => 0)) size_box tabV_size ?_
       intro w3 hA3 hG3
       have hx3 : Ext w2 w3 := grown_new (Ext.alloc _ _) hG3 (fun g hg => by simp at hg; omega)
       have HB3 := Lib.hid hA3
       have HX3 := Lib.hid (HX2.out.tr hx3)
       have HK3 := Lib.hid (HK2.out.ext hx3)
       have HN3 := Lib.hid (HN2.out.ext hx3)
       clear hA3 hG3 hx3)
    | refine wpList_load_arr rfl 22 (.tmp 4) rfl w.heap.size rfl 22 .u8 16 key _ HK3.out Tryz.underlying22 size_bk ?_
    | refine wpList_load_arr rfl 23 (.tmp 5) rfl (w.heap.size + 1) rfl 23 .u8 8 nonce _ HN3.out Tryz.underlying23 size_nc ?_
    | refine wpList_load_arr rfl 100 (.tmp 10) rfl w2.heap.size rfl 100 .u8 256 sb _ HB3.out Tryz.underlying100 size_box ?_)
  refine (rblock_d key nonce at_ hk hn (by omega) _).mono ?_
  rintro e w4 ⟨rfl, hx4⟩
  obtain ⟨gb, hgb⟩ : ∃ gb, gb = w2.heap.size := ⟨_, rfl⟩
  rw [← hgb] at HB3 ⊢
  have HX4 := Lib.hid (HX3.out.tr hx4)
  have HB4 := Lib.hid (HB3.out.ext hx4)
  have HK4 := Lib.hid (HK3.out.ext hx4)
  have HN4 := Lib.hid (HN3.out.ext hx4)
  clear hx4 hgb HX3 HB3 HK3 HN3 HX2 HK2 HN2
  have HNW := Lib.hid (Arr.new w4 22 .u8 16 (fun _ => 0))
  go_wp2_with (refine wpList_store_arr' rfl rfl 22 (.tmp 11) (.tmp 34) rfl w4.heap.size .u8 16 (cblk key nonce (at_ / 16)) rfl rfl 22 _ HNW.out size_bk tabV_size ?_
               intro w5 hA5 hG5
               have hx5 : Ext w4 w5 := grown_new (Ext.alloc _ _) hG5 (fun g hg => by simp at hg; omega)
               have HA5 := Lib.hid hA5
               have HX5 := Lib.hid (HX4.out.tr hx5)
               have HB5 := Lib.hid (HB4.out.ext hx5)
               have HK5 := Lib.hid (HK4.out.ext hx5)
               have HN5 := Lib.hid (HN4.out.ext hx5)
               clear hA5 hG5 hx5)
  obtain ⟨g4, hg4⟩ : ∃ g4, g4 = w4.heap.size := ⟨_, rfl⟩
  have hge4 : w.heap.size ≤ g4 := by rw [hg4]; exact HX4.out.size
  have hne4 : g4 ≠ gb ∧ g4 ≠ w.heap.size ∧ g4 ≠ w.heap.size + 1 := by
    have h1 := HB4.out.lt
    have h2 := HK4.out.lt
    have h3 := HN4.out.lt
    omega
  rw [← hg4] at HA5 ⊢
  clear HX4 HB4 HK4 HN4 HNW hg4
  go_loopw [9, 12] (fun o v wr => ∃ (i k q : Nat) (B : Option Addr) (d : Nat), k ≤ n ∧ i = at_ + k ∧ v = .int .i64 i ∧ o = .slice B k d ∧ OwnB wr 5 w.heap.size B d (strm key nonce at_ k) ∧ Arr wr g4 22 .u8 16 (cblk key nonce q) ∧ (i % 16 = 0 ∨ q = i / 16) ∧
    Arr wr gb 100 .u8 256 sb ∧ Arr wr w.heap.size 22 .u8 16 key ∧ Arr wr (w.heap.size + 1) 23 .u8 8 nonce ∧ Ext w wr) (fun _ v _ => at_ + n - (intOf v).toNat)
  case atStart => exact ⟨at_, 0, at_ / 16, none, 0, Nat.zero_le _, rfl, rfl, rfl, OwnB.nil _ _ _, HA5.out, .inr rfl, HB5.out, HK5.out, HN5.out, HX5.out⟩
  case round =>
    obtain ⟨i, k, q, B, d, hkn, hi, rfl, rfl, hO, hA, hq, hB, hKy, hNo, hx⟩ := hrel
    clear HA5 HB5 HK5 HN5 HX5
    have q1 : IntKind.i64.wrap ((at_ : Int) + (n : Int)) = (at_ : Int) + (n : Int) := IntWalk.i64_in _ (by omega)
    by_cases hlt : k < n
    · have i1 : (i : Int) < (at_ : Int) + (n : Int) := by omega
      obtain ⟨r, hr⟩ : ∃ r, r = i % 16 := ⟨_, rfl⟩
      have er : (i : Int) % 16 = (r : Int) := by omega
      have er16 : (r : Int) < 16 := by omega
      obtain ⟨y, hy⟩ : ∃ y, y = cblk key nonce (i / 16) r := ⟨_, rfl⟩
      obtain ⟨b, hb⟩ : ∃ b : UInt8, b = UInt8.ofNat y := ⟨_, rfl⟩
      have hstep : strm key nonce at_ (k + 1) = strm key nonce at_ k ++ [b] := by rw [strm_succ, ← hi, hb, hy, hr]; rfl
      have qw : IntKind.i64.wrap ((i : Int) + 1) = (i : Int) + 1 := IntWalk.i64_in _ (by omega)
      have hbb : ((y : Nat) : Int) = (b.toNat : Int) := by
        rw [hb, UInt8.toNat_ofNat', Nat.mod_eq_of_lt (by rw [hy]; exact cblk_byt hk hn _ r (by omega))]
      have hil : i < 2199023255552 := by omega
      have HI := Lib.hid hi
      have HST := Lib.hid hstep
      have HBB := Lib.hid hbb
      have HR := Lib.hid hr
      have HY := Lib.hid hy
      clear hi hstep hbb hr hb hy
      by_cases hm0 : i % 16 = 0
      · have em : (i : Int) % 16 = 0 := by omega
        have r0 : r = 0 := by have := HR.out; omega
        subst r0
        clear er er16
        have HO := Lib.hid hO
        have HA := Lib.hid hA
        have HB := Lib.hid hB
        have HKY := Lib.hid hKy
        have HNO := Lib.hid hNo
        have HX := Lib.hid hx
        clear hO hA hB hKy hNo hx
        go_wp2_with (first
          | refine wpList_load_arr rfl 22 (.tmp 4) rfl w.heap.size rfl 22 .u8 16 key _ HKY.out Tryz.underlying22 size_bk ?_
          | refine wpList_load_arr rfl 23 (.tmp 5) rfl (w.heap.size + 1) rfl 23 .u8 8 nonce _ HNO.out Tryz.underlying23 size_nc ?_
          | refine wpList_load_arr rfl 100 (.tmp 10) rfl gb rfl 100 .u8 256 sb _ HB.out Tryz.underlying100 size_box ?_)
        refine (rblock_d key nonce i hk hn (by omega) _).mono ?_
        rintro e w4 ⟨rfl, hx4⟩
        have HO4 := Lib.hid (HO.out.ext hx4)
        have HA4 := Lib.hid (HA.out.ext hx4)
        have HB4 := Lib.hid (HB.out.ext hx4)
        have HKY4 := Lib.hid (HKY.out.ext hx4)
        have HNO4 := Lib.hid (HNO.out.ext hx4)
        have HX4 := Lib.hid (HX.out.tr hx4)
        clear hx4 HO HA HB HKY HNO HX
        go_wp2_with (first
          | (refine wpList_store_arr' rfl rfl 22 (.tmp 11) (.tmp 52) rfl g4 .u8 16 (cblk key nonce (i / 16)) rfl rfl 22 _ HA4.out size_bk tabV_size ?_
             intro w6 hA6 hG6
             have HA6 := Lib.hid hA6
             have hx6 : Ext w w6 := grown_new HX4.out hG6 (fun g hg => by simp at hg; omega)
             have ho6 := HO4.out.keepG hG6 HA4.out (by decide)
             have HB6 := Lib.hid (show Arr w6 gb 100 .u8 256 sb from grown_get hG6 HB4.out (by simp; omega))
             have HKY6 := Lib.hid (show Arr w6 w.heap.size 22 .u8 16 key from grown_get hG6 HKY4.out (by simp; omega))
             have HNO6 := Lib.hid (show Arr w6 (w.heap.size + 1) 23 .u8 8 nonce from grown_get hG6 HNO4.out (by simp; omega))
             have HOL := Lib.hid (ho6.ext (Ext.alloc w6 (.cells #[.int .u8 (y : Nat)] 5)))
             have HXX := Lib.hid hx6
             have HLT := Lib.hid (RB.lit w6 [b] #[.int .u8 (y : Nat)] 5 (by rw [HBB.out]; rfl))
             have HAP := Lib.hid (fun (g : Nat) (cs : Array Value) (t : TypeId) (hh : w6.heap[g]? = some (.cells cs t (0, 0))) (hne : t ≠ 5) => OwnB.apart ho6 hh hne)
             have HGE := Lib.hid (OwnB.ge ho6)
             have HL1 := Lib.hid (show (strm key nonce at_ k).length + ([b] : List UInt8).length ≤ 140737488355328 by rw [strm_len, List.length_singleton]; omega)
             have HL2 := Lib.hid (show w.heap.size ≤ (w6.alloc (.cells #[.int .u8 (y : Nat)] 5)).heap.size from Nat.le_trans HXX.out.size (Ext.alloc _ _).size)
             have hcc := hA6.cell (i := 0) (by omega)
             rw [← HY.out] at hcc
             clear hA6 hG6 ho6 hx6)
          | (at_builtin
             refine wpList_append_bytes _ rfl (.tmp 53) (.tmp 58) 31 rfl w.heap.size 5 i0 Tryz.underlying31 hi0 hz0 hz1 hz2 B d (strm key nonce at_ k) (by rw [strm_len]; rfl) HOL.out _ (some ⟨w6.heap.size, 0, none⟩) 1 [b] rfl HLT.out HL1.out HL2.out ?_
             intro A' c' w7 ho7 hg7 hb7
             have HO7 := Lib.hid ho7
             have HG7 := Lib.hid hg7
             clear ho7 hg7 hb7))
        have hg6 := grown_tr ((Ext.alloc w6 (.cells #[.int .u8 (y : Nat)] 5)).grown _) HG7.out
        have hap := HAP.out
        rw [strm_len] at hg6 hap
        refine ⟨⟨i + 1, k + 1, i / 16, A', c', by omega, by rw [HI.out, Nat.add_assoc], by go_num, by rw [strm_len], by rw [HST.out]; exact HO7.out, grown_get hg6 HA6.out (hap _ _ _ HA6.out (by decide)), ?_, grown_get hg6 HB6.out (hap _ _ _ HB6.out (by decide)), grown_get hg6 HKY6.out (hap _ _ _ HKY6.out (by decide)), grown_get hg6 HNO6.out (hap _ _ _ HNO6.out (by decide)), grown_new HXX.out hg6 (by have := HGE.out; rw [strm_len] at this; exact this)⟩, ?_⟩
        · by_cases h15 : (i + 1) % 16 = 0
          · exact .inl h15
          · exact .inr (by omega)
        · simp only [intOf]
          have := HI.out
          omega
      · have em : ¬ (r : Int) = 0 := by have := HR.out; omega
        have hqe : q = i / 16 := hq.resolve_left hm0
        subst hqe
        have HO6' := Lib.hid hO
        have HA6 := Lib.hid hA
        have HB6 := Lib.hid hB
        have HKY6 := Lib.hid hKy
        have HNO6 := Lib.hid hNo
        have HQ := Lib.hid hm0
        clear hm0
        have HOL := Lib.hid (hO.ext (Ext.alloc wr (.cells #[.int .u8 (y : Nat)] 5)))
        have HXX := Lib.hid hx
        have HLT := Lib.hid (RB.lit wr [b] #[.int .u8 (y : Nat)] 5 (by rw [HBB.out]; rfl))
        have HAP := Lib.hid (fun (g : Nat) (cs : Array Value) (t : TypeId) (hh : wr.heap[g]? = some (.cells cs t (0, 0))) (hne : t ≠ 5) => OwnB.apart hO hh hne)
        have HGE := Lib.hid (OwnB.ge hO)
        have HL1 := Lib.hid (show (strm key nonce at_ k).length + ([b] : List UInt8).length ≤ 140737488355328 by rw [strm_len, List.length_singleton]; omega)
        have HL2 := Lib.hid (show w.heap.size ≤ (wr.alloc (.cells #[.int .u8 (y : Nat)] 5)).heap.size from Nat.le_trans HXX.out.size (Ext.alloc _ _).size)
        have hcc := hA.cell (i := r) (by have := HR.out; omega)
        rw [← HY.out] at hcc
        clear hO hA hB hKy hNo hx hq
        go_wp2_with (at_builtin
                     refine wpList_append_bytes _ rfl (.tmp 53) (.tmp 58) 31 rfl w.heap.size 5 i0 Tryz.underlying31 hi0 hz0 hz1 hz2 B d (strm key nonce at_ k) (by rw [strm_len]; rfl) HOL.out _ (some ⟨wr.heap.size, 0, none⟩) 1 [b] rfl HLT.out HL1.out HL2.out ?_
                     intro A' c' w7 ho7 hg7 hb7
                     have HO7 := Lib.hid ho7
                     have HG7 := Lib.hid hg7
                     clear ho7 hg7 hb7)
        have hg6 := grown_tr ((Ext.alloc wr (.cells #[.int .u8 (y : Nat)] 5)).grown _) HG7.out
        have hap := HAP.out
        rw [strm_len] at hg6 hap
        refine ⟨⟨i + 1, k + 1, i / 16, A', c', by omega, by rw [HI.out, Nat.add_assoc], by go_num, by rw [strm_len], by rw [HST.out]; exact HO7.out, grown_get hg6 HA6.out (hap _ _ _ HA6.out (by decide)), ?_, grown_get hg6 HB6.out (hap _ _ _ HB6.out (by decide)), grown_get hg6 HKY6.out (hap _ _ _ HKY6.out (by decide)), grown_get hg6 HNO6.out (hap _ _ _ HNO6.out (by decide)), grown_new HXX.out hg6 (by have := HGE.out; rw [strm_len] at this; exact this)⟩, ?_⟩
        · by_cases h15 : (i + 1) % 16 = 0
          · exact .inl h15
          · exact .inr (by omega)
        · simp only [intOf]
          have := HI.out
          omega
    · have e : k = n := by omega
      subst e
      have i1 : ¬ (i : Int) < (at_ : Int) + (k : Int) := by omega
      have HO := Lib.hid hO
      have HX := Lib.hid hx
      clear hO hA hq hB hKy hNo hx hi
      go_wp2_with fail
      go_ret
      exact ⟨B, d, rfl, HO.out, HX.out⟩

set_option maxRecDepth 100000 in
set_option maxHeartbeats 4000000 in
theorem rcrypt_c (d : Nat) (key nonce : Nat → Nat) (hk : Byt key) (hn : Byt8 nonce) (B : Option Addr) (b : List UInt8) (S : Nat → TypeId → Prop) (w : World) (hb : b.length ≤ 1048576) (hr : RB w S B b) :
    Calls Tryz.prog 25 #[.agg (tabV .u8 16 key), .agg (tabV .u8 8 nonce), .slice B b.length d] w fun e w' =>
      ∃ A c, e = .returned (.slice A b.length c) ∧ OwnB w' 5 w.heap.size A c (xl (strm key nonce 0 b.length) b) ∧ Ext w w' := by
  obtain ⟨h0, h1⟩ := two_new w (.cells (tabV .u8 16 key) 22) (.cells (tabV .u8 8 nonce) 23)
  have HX := Lib.hid ((Ext.alloc w (.cells (tabV .u8 16 key) 22)).tr (Ext.alloc _ (.cells (tabV .u8 8 nonce) 23)))
  have H0 := Lib.hid (show Arr _ w.heap.size 22 .u8 16 key from h0)
  have H1 := Lib.hid (show Arr _ (w.heap.size + 1) 23 .u8 8 nonce from h1)
  have HR := Lib.hid (hr.inside)
  clear h0 h1 hr
  go_enter Tryz.func25, Tryz.ntmps25
  go_wp2_with (first
    | refine wpList_load_arr rfl 22 (.tmp 3) rfl w.heap.size rfl 22 .u8 16 key _ H0.out Tryz.underlying22 size_bk ?_
    | refine wpList_load_arr rfl 23 (.tmp 4) rfl (w.heap.size + 1) rfl 23 .u8 8 nonce _ H1.out Tryz.underlying23 size_nc ?_)
  obtain ⟨s, hs⟩ : ∃ s, s = strm key nonce 0 b.length := ⟨_, rfl⟩
  have hsl : s.length = b.length := by rw [hs, strm_len]
  have hst := rstream_c key nonce hk hn 0 b.length (by omega) hb ((w.alloc (.cells (tabV .u8 16 key) 22)).alloc (.cells (tabV .u8 8 nonce) 23))
  rw [← hs] at hst
  refine hst.mono ?_
  rintro e w2 ⟨A, c, rfl, ho, hx⟩
  have HO := Lib.hid (ho.less (base' := w.heap.size) (by simp; omega))
  have HX2 := Lib.hid (HX.out.tr hx)
  have HR2 := Lib.hid (HR.out.ext HX2.out)
  have HS := Lib.hid hs
  have HSL := Lib.hid hsl
  clear ho hx hst hs hsl HX H0 H1
  go_wp2_with fail
  go_loopw [8] (fun v wr => ∃ i : Nat, i ≤ b.length ∧ v = .int .i64 i ∧ OwnB wr 5 w.heap.size A c (xlp s b i) ∧ RB wr (fun g' t => S g' t ∧ g' < w.heap.size) B b ∧ Ext w wr) (fun v _ => b.length - (intOf v).toNat)
  case atStart => exact ⟨0, Nat.zero_le _, rfl, by rw [xlp_zero]; exact HO.out, HR2.out, HX2.out⟩
  case round =>
    obtain ⟨i, hi, rfl, hO, hR, hG⟩ := hrel
    clear HO HR2 HX2
    by_cases hlt : i < b.length
    · have hls := xlp_len HSL.out i
      obtain ⟨gb, off, rfl, hcb⟩ := hR.cell hlt
      obtain ⟨ga, rfl⟩ : ∃ ga, A = some ⟨ga, 0, none⟩ := by
        rcases hO.block with ⟨_, _, h⟩ | ⟨ga, cs, h, _⟩
        · rw [h] at hls; simp at hls; omega
        · exact ⟨ga, h⟩
      have hgab := hO.at_
      have hca := hO.cellAt (j := i) (by omega)
      have hfa := hO.freeAt i
      have hset := (hO.ext (Ext.drew wr)).set_ i (s[i]'(by have := HSL.out; omega) ^^^ b[i])
      rw [xlp_set HSL.out hlt (by have := HSL.out; omega)] at hset
      have hxi : (xlp s b i)[i]'(by omega) = s[i]'(by have := HSL.out; omega) := by
        have h1 := xlp_at HSL.out hlt
        rw [List.getElem?_eq_getElem (by omega), List.getElem?_eq_getElem (by have := HSL.out; omega)] at h1
        exact Option.some.inj h1
      rw [hxi] at hca
      obtain ⟨x, hx⟩ : ∃ x, x = s[i]'(by have := HSL.out; omega) := ⟨_, rfl⟩
      obtain ⟨y, hy⟩ : ∃ y, y = b[i] := ⟨_, rfl⟩
      rw [← hx] at hca hset
      rw [← hy] at hcb hset
      have q1 : bits .xor .u8 (x.toNat : Int) (y.toNat : Int) = ((x ^^^ y).toNat : Int) := by rw [u8_xor_nat _ _ (UInt8.toNat_lt x) (UInt8.toNat_lt y), UInt8.toNat_xor]
      have i1 : (i : Int) < (b.length : Int) := by omega
      have HSET := Lib.hid hset
      have HR := Lib.hid (hR.ext (Ext.drew wr))
      have HG := Lib.hid (hG.tr (Ext.drew wr))
      obtain ⟨wd, hwd⟩ : ∃ wd, wd = wr.drew := ⟨_, rfl⟩
      have hca' : wd.cell? ⟨ga, i, none⟩ = some (.int .u8 (x.toNat : Int)) := by rw [hwd]; exact hca
      have hcb' : wd.cell? ⟨gb, off + i, none⟩ = some (.int .u8 (y.toNat : Int)) := by rw [hwd]; exact hcb
      have hfa' : wd.frozen? ⟨ga, i, none⟩ = false := by rw [hwd]; exact hfa
      rw [← hwd] at HSET HR HG
      have HWD := Lib.hid hwd
      clear hset hR hG hO hls hxi hx hy hca hcb hfa hwd
      go_wp2_with fail
      refine wp_region_ord 11 (fun W => W = wd) (by kernel_rfl) (by kernel_rfl) (by decide) (by kernel_rfl) HWD.out.symm ?_
      simp only [List.take_succ_cons, List.take_zero, List.drop_succ_cons, List.drop_zero]
      repeat (refine wpTxt_stay ?_ (fun K hK => ?_) rfl ?_; rotate_left; (simp only [Act.put, List.setIfInBounds_toArray, List.set_cons_zero, List.set_cons_succ] at hK; go_simp; exact hK); simp only [Act.put, List.setIfInBounds_toArray, List.set_cons_zero, List.set_cons_succ])
      refine wpTxt_nil ?_
      rintro W hW
      have HW := Lib.hid hW
      clear hW
      rw [← HW.out] at HSET HR HG hca' hcb' hfa'
      go_wp2_with fail
      refine ⟨⟨i + 1, by omega, by go_num, HSET.out, HR.out.grown (grown_set ⟨ga, i, none⟩ rfl _) (fun g' t hs => by rintro e; injection e with e; have e1 : ga = g' := e; have := hs.2; omega), ext_setCell HG.out (by simp; omega) _⟩, by simp only [intOf]; omega⟩
    · have e : i = b.length := by omega
      subst e
      rw [xlp_all HSL.out] at hO
      have HO := Lib.hid hO
      have HG := Lib.hid hG
      clear hO hR hG
      go_wp2_with fail
      go_ret
      exact ⟨A, c, rfl, by rw [← HS.out]; exact HO.out, HG.out⟩
end Go.Proofs.YtagegigffohcbaaGreatDoor
