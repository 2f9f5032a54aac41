/-
  The reference of layer 6, as far as layer 7 reaches it: the product, the second part of a substitution, the table.
-/
import Derived.Test.YtdmfajcbbolfiaaBoxM
namespace Go.Proofs.Ytdmfajcbbolfiaa
open Go.RowKit
set_option linter.unusedVariables false
set_option linter.unusedSimpArgs false

theorem clm_lt {a b : Nat} (ha : a < 256) (n : Nat) (hn : n ≤ 8) : clm a b n < 65536 := by
  induction n with
  | zero => rw [clm]; decide
  | succ n ih =>
    rw [clm]
    refine Nat.xor_lt_two_pow (n := 16) (ih (by omega)) ?_
    unfold pick
    split
    · rw [Nat.shiftLeft_eq]
      have := Nat.pow_le_pow_right (n := 2) (by decide) (show n ≤ 7 by omega)
      calc a * 2 ^ n ≤ a * 2 ^ 7 := Nat.mul_le_mul_left _ this
        _ < 2 ^ 16 := by omega
    · decide
theorem bit_int (b i : Nat) (hb : b < 4611686018427387904) : bits .and .i64 ((b : Int) / 2 ^ i) 1 = ((b / 2 ^ i % 2 : Nat) : Int) := by
  have h := i64_and1 (b / 2 ^ i) (Nat.lt_of_le_of_lt (Nat.div_le_self _ _) hb)
  rw [Int.natCast_ediv] at h
  push_cast at h ⊢
  exact h
theorem bit_eq (b i : Nat) (hb : b < 4611686018427387904) : (bits .and .i64 ((b : Int) / 2 ^ i) 1 == 1) = b.testBit i := by
  rw [bit_int b i hb, Nat.testBit_eq_decide_div_mod_eq]
  by_cases h : b / 2 ^ i % 2 = 1
  · rw [h]; rfl
  · rw [decide_eq_false h, beq_eq_false_iff_ne]
    omega
theorem shl_int (x n : Nat) (hx : x < 512) (hn : n ≤ 8) : wrap64 ((x : Int) * 2 ^ n) = ((x * 2 ^ n : Nat) : Int) := by
  have h := shl_ok hx (show n ≤ 9 by omega)
  rw [show ((x : Int) * 2 ^ n) = ((x * 2 ^ n : Nat) : Int) by push_cast; rfl]
  exact wrap64_in (by omega)
set_option maxRecDepth 100000 in
set_option maxHeartbeats 1000000 in
theorem rmul_c (a b : Nat) (ha : a < 256) (hb : b < 256) (w : World) : Calls Try.prog 31 #[.int .u8 a, .int .u8 b] w fun e w' => e = .returned (.int .u8 (gm a b : Nat)) ∧ w' = w := by
  go_enter Try.func31, Try.ntmps31
  go_wp2_with fail
  go_loopw [5, 6] (fun p v wr => ∃ i : Nat, i ≤ 8 ∧ v = .int .i64 i ∧ p = .int .i64 (clm a b i : Nat) ∧ wr = w) (fun _ v _ => 8 - (intOf v).toNat)
  case atStart => exact ⟨0, by omega, rfl, rfl, rfl⟩
  case round =>
    obtain ⟨i, hi, rfl, rfl, rfl⟩ := hrel
    by_cases hlt : i < 8
    · have i1 : (i : Int) < 8 := by omega
      have q := bit_eq b i (by omega)
      have hcl := clm_lt (b := b) ha i hi
      have hs := shl_ok (show a < 512 by omega) (show i ≤ 9 by omega)
      have q2 := shl_int a i (by omega) (by omega)
      have q3 := i64_xor_nat (clm a b i) (a * 2 ^ i) (by omega) (by omega)
      have e : clm a b (i + 1) = clm a b i ^^^ (if b.testBit i then a * 2 ^ i else 0) := by rw [clm, pick, Nat.shiftLeft_eq]
      cases ht : b.testBit i with
      | true =>
        rw [ht] at q e
        rw [if_pos rfl] at e
        have HE := Lib.hid e
        clear e ht
        go_wp2_with fail
        refine ⟨⟨i + 1, by omega, by go_num, by rw [HE.out, ← q3]; push_cast; rfl, trivial⟩, ?_⟩
        simp only [intOf]
        omega
      | false =>
        rw [ht] at q e
        rw [if_neg (by decide), Nat.xor_zero] at e
        have HE := Lib.hid e
        clear e ht q2 q3
        go_wp2_with fail
        refine ⟨⟨i + 1, by omega, by go_num, by rw [HE.out], trivial⟩, ?_⟩
        simp only [intOf]
        omega
    · have e8 : i = 8 := by omega
      subst e8
      have hcl := clm_lt (b := b) ha 8 (by decide)
      obtain ⟨c, hc⟩ : ∃ c, c = clm a b 8 := ⟨_, rfl⟩
      rw [← hc] at hcl ⊢
      have hred : red c 7 = gm a b := by rw [hc]; rfl
      clear hc
      go_wp2_with fail
      go_loopw [5, 7] (fun p v wi => ∃ x m : Nat, m ≤ 7 ∧ v = .int .i64 (7 + m : Nat) ∧ p = .int .i64 x ∧ x < 65536 ∧ Hid (red x m = gm a b) ∧ wi = wr) (fun _ v _ => (intOf v).toNat)
      case atStart => exact ⟨c, 7, by omega, rfl, rfl, hcl, Lib.hid hred, rfl⟩
      case round =>
        obtain ⟨x, m, hm, rfl, rfl, hx, HR, rfl⟩ := hrel
        by_cases h0 : m = 0
        · subst h0
          have h := HR.out
          rw [red] at h
          have hl := gm_lt ha hb
          rw [← h] at hl ⊢
          have q : (x : Int) % 256 = x := by omega
          go_wp2_with fail
          go_ret
          exact ⟨rfl, rfl⟩
        · obtain ⟨n, rfl⟩ : ∃ n, m = n + 1 := ⟨m - 1, by omega⟩
          have q := bit_eq x (7 + (n + 1)) (by omega)
          have hs := shl_ok (show 283 < 512 by omega) (show n ≤ 9 by omega)
          have q2 : wrap64 ((283 : Int) * 2 ^ n) = ((283 * 2 ^ n : Nat) : Int) := shl_int 283 n (by omega) (by omega)
          have q3 := i64_xor_nat x (283 * 2 ^ n) (by omega) (by omega)
          have hx2 : x ^^^ 283 * 2 ^ n < 65536 := Nat.xor_lt_two_pow (n := 16) hx (by
            have := Nat.pow_le_pow_right (n := 2) (by decide) (show n ≤ 6 by omega)
            calc 283 * 2 ^ n ≤ 283 * 2 ^ 6 := Nat.mul_le_mul_left _ this
              _ < 2 ^ 16 := by decide)
          have e : red x (n + 1) = red (x ^^^ (if x.testBit (7 + (n + 1)) then 283 * 2 ^ n else 0)) n := by rw [red, pick, Nat.shiftLeft_eq, show 8 + n = 7 + (n + 1) by omega]
          obtain ⟨i, hi⟩ : ∃ i, i = 7 + (n + 1) := ⟨_, rfl⟩
          have i1 : (8 : Int) ≤ (i : Int) := by omega
          have i2 : (i : Int) ≤ 14 := by omega
          have t1 : IntKind.i64.wrap ((i : Int) - 8) = (n : Int) := by rw [IntWalk.i64_in _ (by omega)]; omega
          rw [← hi] at q e ⊢
          cases ht : x.testBit i with
          | true =>
            rw [ht] at q e
            rw [if_pos rfl] at e
            have HE := Lib.hid e
            have HI := Lib.hid hi
            clear e ht hi
            go_wp2_with fail
            have hi := HI.out
            refine ⟨⟨x ^^^ 283 * 2 ^ n, n, by omega, by congr 1; omega, by first | (rw [← q3]; push_cast; rfl) | (rw [← q3, ← q2]), hx2, Lib.hid (by rw [← HR.out, HE.out]), trivial⟩, ?_⟩
            simp only [intOf]
            omega
          | false =>
            rw [ht] at q e
            rw [if_neg (by decide), Nat.xor_zero] at e
            have HE := Lib.hid e
            have HI := Lib.hid hi
            clear e ht hi q2 q3
            go_wp2_with fail
            have hi := HI.out
            refine ⟨⟨x, n, by omega, by congr 1; omega, rfl, hx, Lib.hid (by rw [← HR.out, HE.out]), trivial⟩, ?_⟩
            simp only [intOf]
            omega

set_option maxRecDepth 100000 in
set_option maxHeartbeats 1000000 in
theorem affine_c (b : Nat) (hb : b < 256) (w : World) : Calls Try.prog 32 #[.int .i64 b] w fun e w' => e = .returned (.int .u8 (af b : Nat)) ∧ w' = w := by
  go_enter Try.func32, Try.ntmps32
  go_wp2_with fail
  go_loopw [3, 4] (fun o v wr => ∃ i : Nat, i ≤ 8 ∧ v = .int .i64 i ∧ o = .int .i64 (ao b i : Nat) ∧ wr = w) (fun _ v _ => 8 - (intOf v).toNat)
  case atStart => exact ⟨0, by omega, rfl, rfl, rfl⟩
  case round =>
    obtain ⟨i, hi, rfl, rfl, rfl⟩ := hrel
    by_cases hlt : i < 8
    · have i1 : (i : Int) < 8 := by omega
      have q1 : bits .and .i64 ((99 : Int) / 2 ^ i) 1 = ((99 / 2 ^ i % 2 : Nat) : Int) := bit_int 99 i (by decide)
      have q2 := bit_int b i (by omega)
      obtain ⟨y, hy⟩ : ∃ y, y = 99 / 2 ^ i % 2 := ⟨_, rfl⟩
      obtain ⟨z, hz⟩ : ∃ z, z = b / 2 ^ i % 2 := ⟨_, rfl⟩
      rw [← hy] at q1
      rw [← hz] at q2
      obtain ⟨o, ho⟩ : ∃ o, o = ao b i := ⟨_, rfl⟩
      rw [← ho]
      have HY := Lib.hid hy
      have HZ := Lib.hid hz
      have HO := Lib.hid ho
      have hol : o < 256 := by
        rw [ho]
        exact Nat.lt_of_lt_of_le (ao_lt b i) (Nat.pow_le_pow_right (n := 2) (by decide) hi)
      have hyl : y < 2 := by rw [hy]; exact Nat.mod_lt _ (by decide)
      have hzl : z < 2 := by rw [hz]; exact Nat.mod_lt _ (by decide)
      have q0 : wrap64 ((y : Int) + (z : Int)) = (y : Int) + z := wrap64_in (by omega)
      clear hy hz ho
      go_wp2_with fail
      go_loopw [5, 6] (fun x v wi => ∃ k x' : Nat, k ≤ 4 ∧ v = .int .i64 (4 + k : Nat) ∧ x = .int .i64 x' ∧ Hid (x' = ax b i k) ∧ wi = wr) (fun _ v _ => 8 - (intOf v).toNat)
      case atStart => exact ⟨0, y + z, by omega, rfl, by congr 1, Lib.hid (by rw [ax, HY.out, HZ.out]), rfl⟩
      case round =>
        obtain ⟨k, x', hk, rfl, rfl, HX, rfl⟩ := hrel
        have hxl := ax_le b i k
        rw [← HX.out] at hxl
        by_cases hlk : k < 4
        · obtain ⟨j, hj⟩ : ∃ j, j = 4 + k := ⟨_, rfl⟩
          obtain ⟨s, hs⟩ : ∃ s, s = (i + (4 + k)) % 8 := ⟨_, rfl⟩
          have m1 : ((i : Int) + (j : Int)).tmod 8 = (s : Int) := by rw [Int.tmod_eq_emod_of_nonneg (by omega)]; omega
          have m2 : ((i : Int) + (j : Int)) % 8 = (s : Int) := by omega
          have m3 : IntKind.i64.wrap ((i : Int) + (j : Int)) = (i : Int) + j := IntWalk.i64_in _ (by omega)
          have j1 : (j : Int) < 8 := by omega
          have q3 := bit_int b s (by omega)
          obtain ⟨d, hd⟩ : ∃ d, d = b / 2 ^ s % 2 := ⟨_, rfl⟩
          rw [← hd] at q3
          have hdl : d < 2 := by rw [hd]; exact Nat.mod_lt _ (by decide)
          have q4 : IntKind.i64.wrap ((x' : Int) + (d : Int)) = (x' : Int) + d := IntWalk.i64_in _ (by omega)
          rw [← hj]
          have HJ := Lib.hid hj
          have HD : Hid (ax b i (k + 1) = x' + d) := Lib.hid (by rw [ax, HX.out, hd, hs])
          clear hj hs hd
          go_wp2_with fail
          have hj := HJ.out
          refine ⟨⟨k + 1, x' + d, by omega, by congr 1; omega, by push_cast; rfl, Lib.hid HD.out.symm, trivial⟩, ?_⟩
          simp only [intOf]
          omega
        · have e4 : k = 4 := by omega
          subst e4
          have hs := ao_lt b (i + 1)
          have hp := Nat.pow_le_pow_right (n := 2) (by decide) (show i + 1 ≤ 8 by omega)
          have e : ao b (i + 1) = o + x' % 2 * 2 ^ i := by rw [ao, HO.out, HX.out]
          rw [e] at hs
          have HE := Lib.hid e
          have q5 := shl_int (x' % 2) i (by omega) (by omega)
          push_cast at q5
          have q6 : IntKind.i64.wrap ((o : Int) + (x' : Int) % 2 * 2 ^ i) = (o : Int) + (x' : Int) % 2 * 2 ^ i := IntWalk.i64_in _ (by
            have h1 : ((o + x' % 2 * 2 ^ i : Nat) : Int) < 256 := by omega
            have h2 : (0 : Int) ≤ ((o + x' % 2 * 2 ^ i : Nat) : Int) := by omega
            push_cast at h1 h2
            omega)
          have m1 : (x' : Int).tmod 2 = (x' : Int) % 2 := Int.tmod_eq_emod_of_nonneg (by omega)
          clear e hs hp
          go_wp2_with fail
          refine ⟨⟨i + 1, by omega, by go_num, by rw [HE.out]; push_cast; rfl, trivial⟩, ?_⟩
          simp only [intOf]
          omega
    · have e8 : i = 8 := by omega
      subst e8
      have hl := af_lt b hb
      unfold af at hl
      have q : ((ao b 8 : Nat) : Int) % 256 = (ao b 8 : Nat) := by omega
      obtain ⟨o, ho⟩ : ∃ o, o = ao b 8 := ⟨_, rfl⟩
      rw [← ho] at q ⊢
      have HO := Lib.hid ho
      clear ho hl
      go_wp2_with fail
      go_ret
      exact ⟨by rw [af, ← HO.out]; rfl, rfl⟩
end Go.Proofs.Ytdmfajcbbolfiaa
