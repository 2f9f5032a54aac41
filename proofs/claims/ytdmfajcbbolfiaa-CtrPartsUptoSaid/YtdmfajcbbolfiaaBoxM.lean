/-
  The table of substitutions as the reference fills it: powers of 3, and the second part of a substitution.
-/
import Derived.Test.YtdmfajcbbolfiaaFldB
namespace Go.Proofs.Ytdmfajcbbolfiaa
open Go.RowKit

def pl : List Nat := [1, 3, 5, 15, 17, 51, 85, 255, 26, 46, 114, 150, 161, 248, 19, 53, 95, 225, 56, 72, 216, 115, 149, 164, 247, 2, 6, 10, 30, 34, 102, 170, 229, 52, 92, 228, 55, 89, 235, 38, 106, 190, 217, 112, 144, 171, 230, 49, 83, 245, 4, 12, 20, 60, 68, 204, 79, 209, 104, 184, 211, 110, 178, 205, 76, 212, 103, 169, 224, 59, 77, 215, 98, 166, 241, 8, 24, 40, 120, 136, 131, 158, 185, 208, 107, 189, 220, 127, 129, 152, 179, 206, 73, 219, 118, 154, 181, 196, 87, 249, 16, 48, 80, 240, 11, 29, 39, 105, 187, 214, 97, 163, 254, 25, 43, 125, 135, 146, 173, 236, 47, 113, 147, 174, 233, 32, 96, 160, 251, 22, 58, 78, 210, 109, 183, 194, 93, 231, 50, 86, 250, 21, 63, 65, 195, 94, 226, 61, 71, 201, 64, 192, 91, 237, 44, 116, 156, 191, 218, 117, 159, 186, 213, 100, 172, 239, 42, 126, 130, 157, 188, 223, 122, 142, 137, 128, 155, 182, 193, 88, 232, 35, 101, 175, 234, 37, 111, 177, 200, 67, 197, 84, 252, 31, 33, 99, 165, 244, 7, 9, 27, 45, 119, 153, 176, 203, 70, 202, 69, 207, 74, 222, 121, 139, 134, 145, 168, 227, 62, 66, 198, 81, 243, 14, 18, 54, 90, 238, 41, 123, 141, 140, 143, 138, 133, 148, 167, 242, 13, 23, 57, 75, 221, 124, 132, 151, 162, 253, 28, 36, 108, 180, 199, 82, 246, 1, 3]
def lgl : List Nat := [0, 0, 25, 1, 50, 2, 26, 198, 75, 199, 27, 104, 51, 238, 223, 3, 100, 4, 224, 14, 52, 141, 129, 239, 76, 113, 8, 200, 248, 105, 28, 193, 125, 194, 29, 181, 249, 185, 39, 106, 77, 228, 166, 114, 154, 201, 9, 120, 101, 47, 138, 5, 33, 15, 225, 36, 18, 240, 130, 69, 53, 147, 218, 142, 150, 143, 219, 189, 54, 208, 206, 148, 19, 92, 210, 241, 64, 70, 131, 56, 102, 221, 253, 48, 191, 6, 139, 98, 179, 37, 226, 152, 34, 136, 145, 16, 126, 110, 72, 195, 163, 182, 30, 66, 58, 107, 40, 84, 250, 133, 61, 186, 43, 121, 10, 21, 155, 159, 94, 202, 78, 212, 172, 229, 243, 115, 167, 87, 175, 88, 168, 80, 244, 234, 214, 116, 79, 174, 233, 213, 231, 230, 173, 232, 44, 215, 117, 122, 235, 22, 11, 245, 89, 203, 95, 176, 156, 169, 81, 160, 127, 12, 246, 111, 23, 196, 73, 236, 216, 67, 31, 45, 164, 118, 123, 183, 204, 187, 62, 90, 251, 96, 177, 134, 59, 82, 161, 108, 170, 85, 41, 157, 151, 178, 135, 144, 97, 190, 220, 252, 188, 149, 207, 205, 55, 63, 91, 209, 83, 57, 132, 60, 65, 162, 109, 71, 20, 42, 158, 93, 86, 242, 211, 171, 68, 17, 146, 217, 35, 32, 46, 137, 180, 124, 184, 38, 119, 153, 227, 165, 103, 74, 237, 222, 197, 49, 254, 24, 13, 99, 140, 128, 192, 247, 112, 7]
theorem pl_step : ∀ i < 256, gm (pl.getD i 0) 3 = pl.getD (i + 1) 0 := by decide +kernel
theorem gp3 (n : Nat) (hn : n ≤ 256) : gp 3 n = pl.getD n 0 := by
  induction n with
  | zero => rw [gp]; rfl
  | succ n ih => rw [gp, ih (by omega), pl_step n (by omega)]
theorem lg_lt : ∀ j < 256, lgl.getD j 0 < 256 := by decide +kernel
theorem pl_lg : ∀ j < 256, j ≠ 0 → pl.getD (lgl.getD j 0) 0 = j := by decide +kernel
theorem gp3_all {j : Nat} (hj : j < 256) (h0 : j ≠ 0) : ∃ m, m < 256 ∧ gp 3 m = j := ⟨_, lg_lt j hj, by rw [gp3 _ (Nat.le_of_lt (lg_lt j hj)), pl_lg j hj h0]⟩
theorem gp3_ne {n : Nat} : gp 3 n ≠ 0 := by
  induction n with
  | zero => rw [gp]; decide
  | succ n ih => rw [gp]; exact gm_ne (gp_lt (by decide) n) (by decide) ih (by decide)
theorem gp3_inv {n : Nat} (hn : n ≤ 255) : gp 3 (255 - n) = gi (gp 3 n) := by
  refine gi_uniq (gp_lt (by decide) _) (gp_lt (by decide) _) ?_
  rw [← gp_add (by decide), show n + (255 - n) = 255 by omega, gp_order (by decide) (by decide)]

/-! ## the second part of a substitution -/
def ax (b i : Nat) : Nat → Nat
  | 0 => 99 / 2 ^ i % 2 + b / 2 ^ i % 2
  | k + 1 => ax b i k + b / 2 ^ ((i + (4 + k)) % 8) % 2
def ao (b : Nat) : Nat → Nat
  | 0 => 0
  | i + 1 => ao b i + ax b i 4 % 2 * 2 ^ i
def af (b : Nat) : Nat := ao b 8
theorem af_sb : ∀ a < 256, af (gi a) = sb a := by decide +kernel
theorem af_lt : ∀ a < 256, af a < 256 := by decide +kernel
theorem af_zero : af 0 = sb 0 := by decide +kernel
theorem ax_le (b i k : Nat) : ax b i k ≤ 2 + k := by
  induction k with
  | zero => rw [ax]; omega
  | succ k ih => rw [ax]; omega
theorem ao_lt (b i : Nat) : ao b i < 2 ^ i := by
  induction i with
  | zero => rw [ao]; decide
  | succ i ih =>
    rw [ao, Nat.pow_succ]
    rcases (show ax b i 4 % 2 = 0 ∨ ax b i 4 % 2 = 1 by omega) with h | h <;> rw [h] <;> omega

/-! ## the table while it is filled -/
def bxp (n : Nat) : Nat → Nat
  | j => if j = 0 ∨ ∃ m, m < n ∧ gp 3 m = j then sb j else 0
theorem bxp_zero (j : Nat) : bxp 0 j = if j = 0 then af 0 else 0 := by
  unfold bxp
  by_cases h : j = 0
  · rw [if_pos (.inl h), if_pos h, h, af_zero]
  · rw [if_neg (by rintro (h1 | ⟨m, hm, _⟩) <;> omega), if_neg h]
theorem bxp_new {n : Nat} (hn : n ≤ 255) : bxp (n + 1) (gp 3 n) = af (gp 3 (255 - n)) := by
  unfold bxp
  rw [if_pos (.inr ⟨n, by omega, rfl⟩), gp3_inv hn, af_sb _ (gp_lt (by decide) n)]
theorem bxp_old {n j : Nat} (h : j ≠ gp 3 n) : bxp n j = bxp (n + 1) j := by
  unfold bxp
  by_cases h1 : j = 0 ∨ ∃ m, m < n ∧ gp 3 m = j
  · rw [if_pos h1, if_pos (h1.imp id fun ⟨m, hm, e⟩ => ⟨m, by omega, e⟩)]
  · rw [if_neg h1, if_neg]
    rintro (h2 | ⟨m, hm, e⟩)
    · exact h1 (.inl h2)
    · by_cases hmn : m = n
      · subst hmn; exact h e.symm
      · exact h1 (.inr ⟨m, by omega, e⟩)
theorem bxp_all {j : Nat} (hj : j < 256) : bxp 256 j = sb j := by
  unfold bxp
  rw [if_pos]
  by_cases h0 : j = 0
  · exact .inl h0
  · exact .inr (gp3_all hj h0)
end Go.Proofs.Ytdmfajcbbolfiaa
