/-
  CRC-32C in plain numbers: a step, steps, the register over bytes; linear and one to one; numbers of bytes, the lowest first.
-/
import Derived.Test.YtpfognoabboheaaDoorKit
namespace Go.Proofs.YtpfognoabboheaaDoor

/-- one step of the register -/
def st (x : Nat) : Nat := (x / 2) ^^^ (x % 2 * 2197175160)
/-- n steps -/
def sn : Nat → Nat → Nat
  | 0, x => x
  | n + 1, x => st (sn n x)
/-- the register over bytes -/
def ad (x : Nat) (l : List UInt8) : Nat := l.foldl (fun x c => sn 8 (x ^^^ c.toNat)) x
/-- the checksum of bytes behind others with the checksum s -/
def up (s : Nat) (l : List UInt8) : Nat := 4294967295 - ad (4294967295 - s) l
def cs (l : List UInt8) : Nat := up 0 l

theorem sn_zero (x : Nat) : sn 0 x = x := rfl
theorem sn_succ (n x : Nat) : sn (n + 1) x = st (sn n x) := rfl
theorem sn_add (n m x : Nat) : sn (n + m) x = sn m (sn n x) := by
  induction m with
  | zero => rfl
  | succ m ih => rw [← Nat.add_assoc, sn_succ, ih, sn_succ]
theorem st_lt {x : Nat} (h : x < 4294967296) : st x < 4294967296 := by
  unfold st
  have h1 : x / 2 < 2 ^ 32 := by omega
  have h2 : x % 2 * 2197175160 < 2 ^ 32 := by omega
  exact Nat.xor_lt_two_pow h1 h2
theorem sn_lt {x : Nat} (h : x < 4294967296) (n : Nat) : sn n x < 4294967296 := by
  induction n with
  | zero => exact h
  | succ n ih => exact st_lt ih
theorem xor_lt32 {x y : Nat} (h : x < 4294967296) (k : y < 4294967296) : x ^^^ y < 4294967296 := Nat.xor_lt_two_pow (n := 32) h k
theorem ad_lt (l : List UInt8) : ∀ {x : Nat}, x < 4294967296 → ad x l < 4294967296 := by
  induction l with
  | nil => intro x h; exact h
  | cons c l ih =>
    intro x h
    exact ih (sn_lt (xor_lt32 h (by have := UInt8.toNat_lt c; omega)) 8)
theorem ad_append (x : Nat) (a b : List UInt8) : ad x (a ++ b) = ad (ad x a) b := by rw [ad, List.foldl_append]; rfl
theorem ad_snoc (x : Nat) (a : List UInt8) (c : UInt8) : ad x (a ++ [c]) = sn 8 (ad x a ^^^ c.toNat) := by rw [ad_append]; rfl
theorem ad_nil (x : Nat) : ad x [] = x := rfl
theorem ad_take {x : Nat} {l : List UInt8} {k : Nat} (h : k < l.length) : ad x (l.take (k + 1)) = sn 8 (ad x (l.take k) ^^^ (l[k]).toNat) := by
  rw [List.take_succ_eq_append_getElem h, ad_snoc]
theorem up_lt {s : Nat} (l : List UInt8) : up s l < 4294967296 := by unfold up; omega
theorem cs_lt (l : List UInt8) : cs l < 4294967296 := up_lt l
theorem up_nil {s : Nat} (h : s < 4294967296) : up s [] = s := by unfold up; rw [ad_nil]; omega
theorem up_append {s : Nat} (a b : List UInt8) : up s (a ++ b) = up (up s a) b := by
  have h := ad_lt a (x := 4294967295 - s) (by omega)
  unfold up
  rw [ad_append]
  congr 1
  rw [show 4294967295 - (4294967295 - ad (4294967295 - s) a) = ad (4294967295 - s) a by omega]

/-! ## linear -/
theorem xor_mod2 (x y : Nat) : (x ^^^ y) % 2 = (x % 2) ^^^ (y % 2) := by
  have := Nat.xor_mod_two_pow (a := x) (b := y) (n := 1)
  simpa using this
theorem xor_div2 (x y : Nat) : (x ^^^ y) / 2 = (x / 2) ^^^ (y / 2) := by
  have := Nat.xor_div_two_pow (a := x) (b := y) (n := 1)
  simpa using this
theorem bit_mul (a b P : Nat) (ha : a < 2) (hb : b < 2) : (a ^^^ b) * P = (a * P) ^^^ (b * P) := by
  obtain rfl | rfl : a = 0 ∨ a = 1 := by omega
  · simp
  · obtain rfl | rfl : b = 0 ∨ b = 1 := by omega
    · simp
    · simp
theorem st_xor (x y : Nat) : st (x ^^^ y) = st x ^^^ st y := by
  unfold st
  rw [xor_mod2, xor_div2, bit_mul _ _ _ (Nat.mod_lt _ (by decide)) (Nat.mod_lt _ (by decide))]
  ac_rfl
theorem sn_xor (n x y : Nat) : sn n (x ^^^ y) = sn n x ^^^ sn n y := by
  induction n with
  | zero => rfl
  | succ n ih => rw [sn_succ, sn_succ, sn_succ, ih, st_xor]
theorem st_two (x : Nat) : st (2 * x) = x := by
  unfold st
  rw [Nat.mul_mod_right, Nat.zero_mul, Nat.xor_zero]
  omega
theorem sn_shift (i : Nat) : ∀ x, sn i (2 ^ i * x) = x := by
  induction i with
  | zero => intro x; rw [Nat.pow_zero, Nat.one_mul]; rfl
  | succ i ih =>
    intro x
    rw [sn_succ, Nat.pow_succ, Nat.mul_assoc, ih, st_two]
theorem sn_zero' (n : Nat) : sn n 0 = 0 := by
  induction n with
  | zero => rfl
  | succ n ih => rw [sn_succ, ih]; rfl
theorem st_ne {x : Nat} (h : x < 4294967296) (h0 : x ≠ 0) : st x ≠ 0 := by
  intro e
  have e1 : x / 2 = x % 2 * 2197175160 := by
    have := congrArg (fun z => z ^^^ (x % 2 * 2197175160)) e
    simpa [st, Nat.xor_assoc] using this
  omega
theorem sn_ne {x : Nat} (n : Nat) (h : x < 4294967296) (h0 : x ≠ 0) : sn n x ≠ 0 := by
  induction n with
  | zero => exact h0
  | succ n ih => exact st_ne (sn_lt h n) ih

/-! ## the reference's step: a bit of the byte is taken each time -/
/-- the reference's register behind k steps of the byte c -/
def rb (r c k : Nat) : Nat := sn k (r ^^^ c) ^^^ (c / 2 ^ k)
theorem rb_zero (r c : Nat) : rb r c 0 = r := by
  unfold rb
  rw [sn_zero, Nat.pow_zero, Nat.div_one, Nat.xor_assoc, Nat.xor_self, Nat.xor_zero]
theorem rb_eight (r c : Nat) (h : c < 256) : rb r c 8 = sn 8 (r ^^^ c) := by
  unfold rb
  rw [show c / 2 ^ 8 = 0 from Nat.div_eq_of_lt h, Nat.xor_zero]
theorem rb_lt {r c : Nat} (h : r < 4294967296) (hc : c < 256) (k : Nat) : rb r c k < 4294967296 := by
  unfold rb
  have : c / 2 ^ k ≤ c := Nat.div_le_self _ _
  exact xor_lt32 (sn_lt (xor_lt32 h (by omega)) k) (by omega)
/-- the bit that is shifted out -/
def rout (r c k : Nat) : Nat := (rb r c k % 2) ^^^ (c / 2 ^ k % 2)
theorem rout_lt (r c k : Nat) : rout r c k < 2 := Nat.xor_lt_two_pow (n := 1) (Nat.mod_lt _ (by decide)) (Nat.mod_lt _ (by decide))
theorem rb_succ (r c k : Nat) : rb r c (k + 1) = (rb r c k / 2) ^^^ (rout r c k * 2197175160) := by
  have e : rb r c k ^^^ (c / 2 ^ k) = sn k (r ^^^ c) := by
    unfold rb
    rw [Nat.xor_assoc, Nat.xor_self, Nat.xor_zero]
  have e2 : c / 2 ^ (k + 1) = c / 2 ^ k / 2 := by rw [Nat.pow_succ, Nat.div_div_eq_div_mul]
  rw [rb, sn_succ, ← e, st, e2, xor_div2, rout, xor_mod2]
  generalize rb r c k / 2 = p
  generalize c / 2 ^ k / 2 = q
  generalize (rb r c k % 2 ^^^ c / 2 ^ k % 2) * 2197175160 = s
  rw [Nat.xor_assoc p q s, Nat.xor_comm q s, ← Nat.xor_assoc, Nat.xor_assoc _ q q, Nat.xor_self, Nat.xor_zero]
theorem rb_one {r c k : Nat} (h : rout r c k = 1) : rb r c (k + 1) = (rb r c k / 2) ^^^ 2197175160 := by rw [rb_succ, h, Nat.one_mul]
theorem rb_no {r c k : Nat} (h : rout r c k ≠ 1) : rb r c (k + 1) = rb r c k / 2 := by
  have := rout_lt r c k
  rw [rb_succ, show rout r c k = 0 by omega, Nat.zero_mul, Nat.xor_zero]

/-! ## bytes as one number, the lowest first -/
def nm : List UInt8 → Nat
  | [] => 0
  | c :: l => c.toNat + 256 * nm l
theorem nm_lt (l : List UInt8) : nm l < 2 ^ (8 * l.length) := by
  induction l with
  | nil => simp [nm]
  | cons c l ih =>
    have := UInt8.toNat_lt c
    have e : 2 ^ (8 * (l.length + 1)) = 256 * 2 ^ (8 * l.length) := by
      rw [Nat.mul_add, Nat.pow_add, Nat.mul_comm]
    rw [nm, List.length_cons, e]
    omega
theorem nm_inj : ∀ {a b : List UInt8}, a.length = b.length → nm a = nm b → a = b := by
  intro a
  induction a with
  | nil => intro b h _; exact (List.eq_nil_of_length_eq_zero h.symm).symm
  | cons c a ih =>
    intro b h e
    cases b with
    | nil => simp at h
    | cons d b =>
      rw [nm, nm] at e
      have h1 := UInt8.toNat_lt c
      have h2 := UInt8.toNat_lt d
      have e1 : c = d := UInt8.toNat_inj.1 (by omega)
      rw [e1, ih (by simpa using h) (by omega)]
theorem add_xor_256 (c n : Nat) (hc : c < 256) : c + 256 * n = c ^^^ (256 * n) := by
  have := Nat.shiftLeft_add_eq_or_of_lt (i := 8) (a := n) (b := c) hc
  rw [Nat.shiftLeft_eq] at this
  have e : (n * 2 ^ 8) ||| c = c ^^^ (256 * n) := by
    rw [Nat.mul_comm n]
    apply Nat.eq_of_testBit_eq
    intro j
    rw [Nat.testBit_or, Nat.testBit_xor, show 256 * n = 2 ^ 8 * n from rfl, Nat.testBit_two_pow_mul]
    by_cases hj : 8 ≤ j
    · have : c.testBit j = false := Nat.testBit_lt_two_pow (Nat.lt_of_lt_of_le hc (show 2 ^ 8 ≤ 2 ^ j from Nat.pow_le_pow_right (by decide) hj))
      rw [this]; simp
    · simp [hj]
  rw [← e, ← this]
  omega
theorem nm_cons (c : UInt8) (l : List UInt8) : nm (c :: l) = c.toNat ^^^ (256 * nm l) := by
  rw [nm, add_xor_256 _ _ (UInt8.toNat_lt c)]
/-- the register over bytes is so many steps of one number -/
theorem ad_nm (l : List UInt8) : ∀ x, ad x l = sn (8 * l.length) (x ^^^ nm l) := by
  induction l with
  | nil => intro x; simp [ad, nm, sn]
  | cons c l ih =>
    intro x
    have e : ad x (c :: l) = ad (sn 8 (x ^^^ c.toNat)) l := rfl
    have e2 : sn 8 (x ^^^ c.toNat ^^^ (256 * nm l)) = sn 8 (x ^^^ c.toNat) ^^^ nm l := by
      rw [sn_xor, show 256 * nm l = 2 ^ 8 * nm l from rfl, sn_shift]
    rw [e, ih, ← e2, ← sn_add, List.length_cons, nm_cons, Nat.xor_assoc, show 8 + 8 * l.length = 8 * (l.length + 1) by omega]
/-- a change of up to 32 bits that follow each other is seen -/
theorem burst {x i W : Nat} {a b : List UInt8} (hl : a.length = b.length) (hi : i ≤ 8 * b.length) (hW : W < 4294967296) (hn : nm a = nm b ^^^ (2 ^ i * W)) (he : ad x a = ad x b) : a = b := by
  rw [ad_nm, ad_nm, hl, hn, ← Nat.xor_assoc, sn_xor (8 * b.length) (x ^^^ nm b)] at he
  have h0 : sn (8 * b.length) (2 ^ i * W) = 0 := by
    have := congrArg (fun z => sn (8 * b.length) (x ^^^ nm b) ^^^ z) he
    simpa [← Nat.xor_assoc] using this
  rw [show 8 * b.length = i + (8 * b.length - i) by omega, sn_add, sn_shift] at h0
  have hW0 : W = 0 := by
    by_cases h : W = 0
    · exact h
    · exact absurd h0 (sn_ne _ hW h)
  refine nm_inj hl ?_
  rw [hn, hW0, Nat.mul_zero, Nat.xor_zero]
theorem burst_cs {i W : Nat} {a b : List UInt8} (hl : a.length = b.length) (hi : i ≤ 8 * b.length) (hW : W < 4294967296) (hn : nm a = nm b ^^^ (2 ^ i * W)) (he : cs a = cs b) : a = b := by
  refine burst (x := 4294967295) hl hi hW hn ?_
  have h1 := ad_lt a (x := 4294967295) (by omega)
  have h2 := ad_lt b (x := 4294967295) (by omega)
  unfold cs up at he
  simp only [Nat.sub_zero] at he
  omega
/-- one bit of a row of bytes is turned -/
theorem nm_set (l : List UInt8) : ∀ (j y : Nat) (c : UInt8) (hj : j < l.length), y < 256 → c.toNat = (l[j]).toNat ^^^ y → nm (l.set j c) = nm l ^^^ (2 ^ (8 * j) * y) := by
  induction l with
  | nil => intro j y c hj; simp at hj
  | cons d l ih =>
    intro j y c hj hy hc
    cases j with
    | zero =>
      simp at hc
      rw [List.set_cons_zero, nm_cons, nm_cons, hc]
      simp only [Nat.mul_zero, Nat.pow_zero, Nat.one_mul]
      ac_rfl
    | succ j =>
      have hj' : j < l.length := by simpa using hj
      rw [List.set_cons_succ, nm_cons, nm_cons, ih j y c hj' hy (by simpa using hc), Nat.xor_assoc]
      congr 1
      rw [show 2 ^ (8 * (j + 1)) * y = 256 * (2 ^ (8 * j) * y) by rw [Nat.mul_add, Nat.pow_add, Nat.mul_comm (2 ^ (8 * j)), Nat.mul_assoc]]
      apply Nat.eq_of_testBit_eq
      intro q
      rw [Nat.testBit_xor, show (256 : Nat) = 2 ^ 8 from rfl, Nat.testBit_two_pow_mul, Nat.testBit_two_pow_mul, Nat.testBit_two_pow_mul, Nat.testBit_xor]
      by_cases h : q ≥ 8 <;> simp [h]
end Go.Proofs.YtpfognoabboheaaDoor
