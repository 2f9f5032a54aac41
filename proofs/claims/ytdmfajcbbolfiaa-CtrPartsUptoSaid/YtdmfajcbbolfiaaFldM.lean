/-
  The field of 256 elements in plain numbers: the product, its laws, inverses, powers.
-/
import Derived.Test.YtdmfajcbbolfiaaKit
namespace Go.Proofs.Ytdmfajcbbolfiaa
open Go.RowKit

/-- x, if bit i of b is set -/
def pick (b i x : Nat) : Nat := if b.testBit i then x else 0
theorem pick_lin (b c i x : Nat) : pick (b ^^^ c) i x = pick b i x ^^^ pick c i x := by
  unfold pick
  rw [Nat.testBit_xor]
  cases b.testBit i <;> cases c.testBit i <;> simp
theorem pick_lin2 (b i x y : Nat) : pick b i (x ^^^ y) = pick b i x ^^^ pick b i y := by
  unfold pick
  split
  · rfl
  · simp
/-- the product of polynomials, the first n bits of b -/
def clm (a b : Nat) : Nat → Nat
  | 0 => 0
  | n + 1 => clm a b n ^^^ pick b n (a <<< n)
theorem xor4 (a b c d : Nat) : (a ^^^ b) ^^^ (c ^^^ d) = (a ^^^ c) ^^^ (b ^^^ d) := by
  rw [Nat.xor_assoc, ← Nat.xor_assoc b c d, Nat.xor_comm b c, Nat.xor_assoc c b d, ← Nat.xor_assoc]
theorem clm_lin (a b c n : Nat) : clm a (b ^^^ c) n = clm a b n ^^^ clm a c n := by
  induction n with
  | zero => simp [clm]
  | succ n ih => rw [clm, clm, clm, ih, pick_lin, xor4]
theorem clm_lin1 (a c b n : Nat) : clm (a ^^^ c) b n = clm a b n ^^^ clm c b n := by
  induction n with
  | zero => simp [clm]
  | succ n ih => rw [clm, clm, clm, ih, Nat.shiftLeft_xor_distrib, pick_lin2, xor4]
/-- bit 8 + n and the bits below are taken away -/
def red (p : Nat) : Nat → Nat
  | 0 => p
  | n + 1 => red (p ^^^ pick p (8 + n) (283 <<< n)) n
theorem red_lin (n : Nat) : ∀ p q : Nat, red (p ^^^ q) n = red p n ^^^ red q n := by
  induction n with
  | zero => intro p q; rfl
  | succ n ih =>
    intro p q
    rw [red, red, red, ← ih, pick_lin, xor4]
/-- the product -/
def gm (a b : Nat) : Nat := red (clm a b 8) 7
theorem gm_lin (a b c : Nat) : gm a (b ^^^ c) = gm a b ^^^ gm a c := by unfold gm; rw [clm_lin, red_lin]
theorem gm_lin1 (a c b : Nat) : gm (a ^^^ c) b = gm a b ^^^ gm c b := by unfold gm; rw [clm_lin1, red_lin]

/-! ## linear functions are told by eight values -/
theorem top_bit : ∀ k < 8, ∀ a < 256, 2 ^ k ≤ a → a < 2 ^ (k + 1) → 2 ^ k ^^^ (a - 2 ^ k) = a := by decide +kernel
theorem lin_ext {g h : Nat → Nat} (hg : ∀ x y, g (x ^^^ y) = g x ^^^ g y) (hh : ∀ x y, h (x ^^^ y) = h x ^^^ h y) (h8 : ∀ k < 8, g (2 ^ k) = h (2 ^ k)) : ∀ a < 256, g a = h a := by
  have g0 : ∀ {f : Nat → Nat}, (∀ x y, f (x ^^^ y) = f x ^^^ f y) → f 0 = 0 := fun {f} hf => by
    have := hf 0 0
    rw [Nat.xor_self, Nat.xor_self] at this
    exact this
  have key : ∀ k ≤ 8, ∀ a < 2 ^ k, g a = h a := by
    intro k
    induction k with
    | zero =>
      intro _ a ha
      have : a = 0 := by simpa using ha
      rw [this, g0 hg, g0 hh]
    | succ k ih =>
      intro hk a ha
      by_cases hlt : a < 2 ^ k
      · exact ih (by omega) a hlt
      · have h256 : a < 256 := Nat.lt_of_lt_of_le ha (Nat.pow_le_pow_right (n := 2) (by decide) (by omega : k + 1 ≤ 8))
        have ht := top_bit k (by omega) a h256 (by omega) ha
        have hlt2 : a - 2 ^ k < 2 ^ k := by rw [Nat.pow_succ] at ha; omega
        rw [← ht, hg, hh, h8 k (by omega), ih (by omega) _ hlt2]
  exact fun a ha => key 8 (Nat.le_refl _) a ha

/-! ## the laws of the product -/
theorem gm_lt8 : ∀ j < 8, ∀ k < 8, gm (2 ^ j) (2 ^ k) < 256 := by decide +kernel
theorem gm_comm8 : ∀ j < 8, ∀ k < 8, gm (2 ^ j) (2 ^ k) = gm (2 ^ k) (2 ^ j) := by decide +kernel
theorem gm_comm {a b : Nat} (ha : a < 256) (hb : b < 256) : gm a b = gm b a := by
  refine lin_ext (g := fun a => gm a b) (h := fun a => gm b a) (fun x y => gm_lin1 x y b) (fun x y => gm_lin b x y) (fun j hj => ?_) a ha
  exact lin_ext (g := fun b => gm (2 ^ j) b) (h := fun b => gm b (2 ^ j)) (fun x y => gm_lin _ x y) (fun x y => gm_lin1 x y _) (fun k hk => gm_comm8 j hj k hk) b hb
theorem pow2_lt : ∀ k < 8, 2 ^ k < 256 := by decide
theorem and_id : ∀ j < 8, ∀ k < 8, gm (2 ^ j) (2 ^ k) &&& 255 = gm (2 ^ j) (2 ^ k) := by decide +kernel
theorem gm_lt {a b : Nat} (ha : a < 256) (hb : b < 256) : gm a b < 256 := by
  have hlin : ∀ x y : Nat, (x ^^^ y) &&& 255 = (x &&& 255) ^^^ (y &&& 255) := fun x y => Nat.and_xor_distrib_right ..
  have h : gm a b &&& 255 = gm a b := by
    refine lin_ext (g := fun a => gm a b &&& 255) (h := fun a => gm a b) (fun x y => by rw [gm_lin1, hlin]) (fun x y => gm_lin1 x y b) (fun j hj => ?_) a ha
    exact lin_ext (g := fun b => gm (2 ^ j) b &&& 255) (h := fun b => gm (2 ^ j) b) (fun x y => by rw [gm_lin, hlin]) (fun x y => gm_lin _ x y) (fun k hk => and_id j hj k hk) b hb
  rw [← h]
  exact Nat.lt_of_le_of_lt Nat.and_le_right (by decide)
theorem gm_assoc8 : ∀ i < 8, ∀ j < 8, ∀ k < 8, gm (gm (2 ^ i) (2 ^ j)) (2 ^ k) = gm (2 ^ i) (gm (2 ^ j) (2 ^ k)) := by decide +kernel
theorem gm_assoc {a b c : Nat} (ha : a < 256) (hb : b < 256) (hc : c < 256) : gm (gm a b) c = gm a (gm b c) := by
  refine lin_ext (g := fun a => gm (gm a b) c) (h := fun a => gm a (gm b c)) (fun x y => by rw [gm_lin1, gm_lin1]) (fun x y => gm_lin1 x y _) (fun i hi => ?_) a ha
  refine lin_ext (g := fun b => gm (gm (2 ^ i) b) c) (h := fun b => gm (2 ^ i) (gm b c)) (fun x y => by rw [gm_lin, gm_lin1]) (fun x y => by rw [gm_lin1, gm_lin]) (fun j hj => ?_) b hb
  exact lin_ext (g := fun c => gm (gm (2 ^ i) (2 ^ j)) c) (h := fun c => gm (2 ^ i) (gm (2 ^ j) c)) (fun x y => gm_lin _ x y) (fun x y => by rw [gm_lin, gm_lin]) (fun k hk => gm_assoc8 i hi j hj k hk) c hc
theorem gm_one : ∀ a < 256, gm a 1 = a := by decide +kernel
theorem gm_zero : ∀ a < 256, gm a 0 = 0 := by decide +kernel

/-! ## inverses -/
/-- the power of a: n factors -/
def gp (a : Nat) : Nat → Nat
  | 0 => 1
  | n + 1 => gm (gp a n) a
theorem gp_lt {a : Nat} (ha : a < 256) (n : Nat) : gp a n < 256 := by
  induction n with
  | zero => rw [gp]; decide
  | succ n ih => rw [gp]; exact gm_lt ih ha
/-- squares, and the inverse as the power 254 -/
def sq (a : Nat) : Nat := gm a a
def gi (a : Nat) : Nat := sq (gm (sq (gm (sq (gm (sq (gm (sq (gm (sq (gm (sq a) a)) a)) a)) a)) a)) a)
theorem gi_lt : ∀ a < 256, gi a < 256 := by decide +kernel
theorem gi_mul : ∀ a < 256, a ≠ 0 → gm a (gi a) = 1 := by decide +kernel
theorem gi_zero : gi 0 = 0 := by decide +kernel
theorem gi_uniq {a b : Nat} (ha : a < 256) (hb : b < 256) (h : gm a b = 1) : b = gi a := by
  have ha0 : a ≠ 0 := by
    rintro rfl
    rw [gm_comm ha hb, gm_zero b hb] at h
    exact absurd h (by decide)
  have hi := gi_lt a ha
  have e1 : gm (gi a) (gm a b) = b := by
    rw [← gm_assoc hi ha hb, gm_comm hi ha, gi_mul a ha ha0, gm_comm (by decide) hb, gm_one b hb]
  rw [← e1, h, gm_one _ hi]
theorem gi_gi {a : Nat} (ha : a < 256) : gi (gi a) = a := by
  by_cases h0 : a = 0
  · subst h0; rw [gi_zero, gi_zero]
  · exact (gi_uniq (gi_lt a ha) ha (by rw [gm_comm (gi_lt a ha) ha]; exact gi_mul a ha h0)).symm
theorem gm_ne {a b : Nat} (ha : a < 256) (hb : b < 256) (h1 : a ≠ 0) (h2 : b ≠ 0) : gm a b ≠ 0 := by
  intro h
  have e : gm (gi a) (gm a b) = b := by
    rw [← gm_assoc (gi_lt a ha) ha hb, gm_comm (gi_lt a ha) ha, gi_mul a ha h1, gm_comm (by decide) hb, gm_one b hb]
  rw [h, gm_zero _ (gi_lt a ha)] at e
  exact h2 e.symm
theorem gi_gm {a b : Nat} (ha : a < 256) (hb : b < 256) : gi (gm a b) = gm (gi a) (gi b) := by
  have z : ∀ {x : Nat}, x < 256 → gm 0 x = 0 := fun {x} hx => by rw [gm_comm (by decide) hx, gm_zero x hx]
  by_cases h1 : a = 0
  · subst h1; rw [z hb, gi_zero, z (gi_lt b hb)]
  by_cases h2 : b = 0
  · subst h2; rw [gm_zero a ha, gi_zero, gm_zero _ (gi_lt a ha)]
  have ia := gi_lt a ha
  have ib := gi_lt b hb
  refine (gi_uniq (gm_lt ha hb) (gm_lt ia ib) ?_).symm
  rw [gm_assoc ha hb (gm_lt ia ib), ← gm_assoc hb ia ib, gm_comm hb ia, gm_assoc ia hb ib, gi_mul b hb h2, gm_one _ ia, gi_mul a ha h1]

/-! ## powers -/
theorem gp_add {a : Nat} (ha : a < 256) (m n : Nat) : gp a (m + n) = gm (gp a m) (gp a n) := by
  induction n with
  | zero => rw [Nat.add_zero, gp, gm_one _ (gp_lt ha m)]
  | succ n ih => rw [← Nat.add_assoc, gp, gp, ih, gm_assoc (gp_lt ha m) (gp_lt ha n) ha]
theorem gp_inv {a : Nat} (ha : a < 256) (n : Nat) : gp (gi a) n = gi (gp a n) := by
  induction n with
  | zero => rw [gp, gp]; decide +kernel
  | succ n ih => rw [gp, gp, ih, gi_gm (gp_lt ha n) ha]
theorem gp_mul {a : Nat} (ha : a < 256) (m n : Nat) : gp (gp a m) n = gp a (m * n) := by
  induction n with
  | zero => rw [gp, Nat.mul_zero, gp]
  | succ n ih => rw [gp, ih, Nat.mul_succ, gp_add ha]
theorem gp_255 : ∀ a < 256, a ≠ 0 → gp (gp (gp (gp a 3) 5) 17) 1 = 1 := by decide +kernel
theorem gp_order {a : Nat} (ha : a < 256) (h : a ≠ 0) : gp a 255 = 1 := by
  have e := gp_255 a ha h
  rw [gp_mul (gp_lt ha 3), gp_mul ha, gp_mul ha] at e
  exact e
end Go.Proofs.Ytdmfajcbbolfiaa
