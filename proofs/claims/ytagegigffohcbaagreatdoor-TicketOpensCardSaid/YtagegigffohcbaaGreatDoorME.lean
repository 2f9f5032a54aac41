/-
  SHA-256 in plain numbers: the words of a block, the rounds, the padding, the digest.
  Package sha: rotations, the words of a block, a block.
  Package sha: the state after a block.
  Package sha: the start, the constants, the bytes of a state, the padding.
  SHA-256 in plain numbers: blocks taken one after the other.
  Package sha: the bytes of a part are added to a digest that has begun.
  Package sha: the digest of parts.
-/
import Derived.Test.YtagegigffohcbaaGreatDoorMA
import Derived.Laws.BitsAllLaws
import Derived.BigRegion
import Derived.Laws.CopyOwn
set_option linter.unusedVariables false
set_option linter.unusedSimpArgs false
namespace Go.Proofs.YtagegigffohcbaaGreatDoor
open Go.RowKit

/-- a sum of two words -/
def ad (a b : Nat) : Nat := (a + b) % 4294967296
theorem ad_lt (a b : Nat) : ad a b < 4294967296 := Nat.mod_lt _ (by decide)
theorem ad_comm (a b : Nat) : ad a b = ad b a := by unfold ad; rw [Nat.add_comm]
/-- a word rotated to the right -/
def rr (w n : Nat) : Nat := (w * 2 ^ (32 - n) % 4294967296) ||| w / 2 ^ n
theorem rr_lt {w : Nat} (h : w < 4294967296) (n : Nat) : rr w n < 4294967296 :=
  Nat.or_lt_two_pow (n := 32) (Nat.mod_lt _ (by decide)) (Nat.lt_of_le_of_lt (Nat.div_le_self _ _) h)
theorem xor_lt {a b : Nat} (ha : a < 4294967296) (hb : b < 4294967296) : a ^^^ b < 4294967296 := Nat.xor_lt_two_pow (n := 32) ha hb
theorem and_lt {a b : Nat} (ha : a < 4294967296) : a &&& b < 4294967296 := Nat.lt_of_le_of_lt Nat.and_le_left ha
def nt (a : Nat) : Nat := 4294967295 - a
theorem nt_lt (a : Nat) : nt a < 4294967296 := by unfold nt; omega
def sg0 (x : Nat) : Nat := (rr x 7 ^^^ rr x 18) ^^^ x / 8
def sg1 (x : Nat) : Nat := (rr x 17 ^^^ rr x 19) ^^^ x / 1024
def bs0 (a : Nat) : Nat := (rr a 2 ^^^ rr a 13) ^^^ rr a 22
def bs1 (e : Nat) : Nat := (rr e 6 ^^^ rr e 11) ^^^ rr e 25
def chs (e f g : Nat) : Nat := (e &&& f) ^^^ (nt e &&& g)
def maj (a b c : Nat) : Nat := ((a &&& b) ^^^ (a &&& c)) ^^^ (b &&& c)
theorem sg0_lt {x : Nat} (h : x < 4294967296) : sg0 x < 4294967296 := xor_lt (xor_lt (rr_lt h _) (rr_lt h _)) (Nat.lt_of_le_of_lt (Nat.div_le_self _ _) h)
theorem sg1_lt {x : Nat} (h : x < 4294967296) : sg1 x < 4294967296 := xor_lt (xor_lt (rr_lt h _) (rr_lt h _)) (Nat.lt_of_le_of_lt (Nat.div_le_self _ _) h)
theorem bs0_lt {x : Nat} (h : x < 4294967296) : bs0 x < 4294967296 := xor_lt (xor_lt (rr_lt h _) (rr_lt h _)) (rr_lt h _)
theorem bs1_lt {x : Nat} (h : x < 4294967296) : bs1 x < 4294967296 := xor_lt (xor_lt (rr_lt h _) (rr_lt h _)) (rr_lt h _)
theorem chs_lt {e f g : Nat} (h : e < 4294967296) : chs e f g < 4294967296 := xor_lt (and_lt h) (and_lt (nt_lt e))
theorem maj_lt {a b c : Nat} (h : a < 4294967296) (h' : b < 4294967296) : maj a b c < 4294967296 := xor_lt (xor_lt (and_lt h) (and_lt h)) (and_lt h')

/-! ## the words of a block -/
/-- word i, as far as m of its bytes go -/
def acc (bl : Nat → Nat) (i : Nat) : Nat → Nat
  | 0 => 0
  | m + 1 => acc bl i m * 256 + bl (4 * i + m)
/-- word i after j bytes -/
def wpart (bl : Nat → Nat) (j i : Nat) : Nat := acc bl i (min 4 (j - 4 * i))
theorem acc_lt {bl : Nat → Nat} (hb : ∀ i, bl i < 256) (i m : Nat) : acc bl i m < 256 ^ m := by
  induction m with
  | zero => simp [acc]
  | succ m ih =>
    have := hb (4 * i + m)
    simp only [acc]
    rw [Nat.pow_succ]
    omega
theorem wpart_lt {bl : Nat → Nat} (hb : ∀ i, bl i < 256) (j i : Nat) : wpart bl j i < 4294967296 := by
  have h := acc_lt hb i (min 4 (j - 4 * i))
  exact Nat.lt_of_lt_of_le h (Nat.pow_le_pow_right (n := 256) (by decide) (Nat.min_le_left _ _))
theorem wpart_zero (bl : Nat → Nat) (i : Nat) : wpart bl 0 i = 0 := by simp [wpart, acc]
theorem wpart_same (bl : Nat → Nat) (j : Nat) : wpart bl (j + 1) (j / 4) = wpart bl j (j / 4) * 256 + bl j := by
  unfold wpart
  have e1 : min 4 (j - 4 * (j / 4)) = j % 4 := by omega
  have e2 : min 4 (j + 1 - 4 * (j / 4)) = j % 4 + 1 := by omega
  have e3 : 4 * (j / 4) + j % 4 = j := by omega
  rw [e1, e2, acc, e3]
theorem wpart_low {bl : Nat → Nat} (hb : ∀ i, bl i < 256) (j : Nat) : wpart bl j (j / 4) < 16777216 := by
  have h := acc_lt hb (j / 4) (min 4 (j - 4 * (j / 4)))
  have h3 : min 4 (j - 4 * (j / 4)) ≤ 3 := by omega
  exact Nat.lt_of_lt_of_le h (Nat.pow_le_pow_right (n := 256) (by decide) h3)
theorem wpart_other (bl : Nat → Nat) {j i : Nat} (h : i ≠ j / 4) : wpart bl (j + 1) i = wpart bl j i := by
  unfold wpart
  congr 1
  omega
theorem wpart_all (bl : Nat → Nat) {i : Nat} (h : i < 16) : wpart bl 64 i = acc bl i 4 := by
  unfold wpart
  congr 1
  omega

def nextw (l : List Nat) (n : Nat) : Nat := ad (ad (ad (l.getD (n - 16) 0) (sg0 (l.getD (n - 15) 0))) (l.getD (n - 7) 0)) (sg1 (l.getD (n - 2) 0))
def wl (bl : Nat → Nat) : Nat → List Nat
  | 0 => (List.range 16).map fun i => acc bl i 4
  | k + 1 => wl bl k ++ [nextw (wl bl k) (16 + k)]
/-- the words of a block -/
def wds (bl : Nat → Nat) (i : Nat) : Nat := (wl bl 48).getD i 0
theorem wl_len (bl : Nat → Nat) (k : Nat) : (wl bl k).length = 16 + k := by
  induction k with
  | zero => simp [wl]
  | succ k ih => simp [wl, ih]; omega
theorem wl_more (bl : Nat → Nat) (k m i : Nat) (h : i < 16 + k) : (wl bl (k + m)).getD i 0 = (wl bl k).getD i 0 := by
  induction m with
  | zero => rfl
  | succ m ih =>
    rw [← ih, ← Nat.add_assoc, wl]
    rw [List.getD_eq_getElem?_getD, List.getElem?_append_left (by rw [wl_len]; omega), List.getD_eq_getElem?_getD]
theorem wds_at (bl : Nat → Nat) {k i : Nat} (h : i < 16 + k) (hk : k ≤ 48) : (wl bl k).getD i 0 = wds bl i := by
  have := wl_more bl k (48 - k) i h
  rw [show k + (48 - k) = 48 by omega] at this
  exact this.symm
theorem wds_first (bl : Nat → Nat) {i : Nat} (h : i < 16) : wds bl i = acc bl i 4 := by
  rw [← wds_at bl (k := 0) (by omega) (by omega)]
  simp [wl, h]
theorem wpart_wds (bl : Nat → Nat) {i : Nat} (h : i < 64) : wpart bl 64 i = if i < 16 then wds bl i else 0 := by
  split
  · rw [wpart_all bl ‹_›, wds_first bl ‹_›]
  · unfold wpart
    rw [show min 4 (64 - 4 * i) = 0 by omega]
    rfl
theorem wl_succ (bl : Nat → Nat) (k : Nat) : wl bl (k + 1) = wl bl k ++ [nextw (wl bl k) (16 + k)] := by rw [wl]
theorem getD_last (l : List Nat) (x n : Nat) (h : n = l.length) : (l ++ [x]).getD n 0 = x := by
  subst h
  simp
theorem wl_last (bl : Nat → Nat) (k : Nat) : (wl bl (k + 1)).getD (16 + k) 0 = nextw (wl bl k) (16 + k) := by
  rw [wl_succ]
  exact getD_last _ _ _ (wl_len bl k).symm
theorem wds_nx (bl : Nat → Nat) {k : Nat} (h' : k < 48) : wds bl (16 + k) = nextw (wl bl k) (16 + k) := by
  rw [← wds_at bl (k := k + 1) (i := 16 + k) (by omega) (by omega)]
  exact wl_last bl k
theorem nextw_wl (bl : Nat → Nat) {k : Nat} (h' : k < 48) : nextw (wl bl k) (16 + k) = ad (ad (ad (wds bl (16 + k - 16)) (sg0 (wds bl (16 + k - 15)))) (wds bl (16 + k - 7))) (sg1 (wds bl (16 + k - 2))) := by
  unfold nextw
  rw [wds_at bl (by omega) (by omega), wds_at bl (by omega) (by omega), wds_at bl (by omega) (by omega), wds_at bl (by omega) (by omega)]
theorem wds_next (bl : Nat → Nat) {n : Nat} (h : 16 ≤ n) (h' : n < 64) : wds bl n = ad (ad (ad (wds bl (n - 16)) (sg0 (wds bl (n - 15)))) (wds bl (n - 7))) (sg1 (wds bl (n - 2))) := by
  obtain ⟨k, rfl⟩ : ∃ k, n = 16 + k := ⟨n - 16, by omega⟩
  rw [wds_nx bl (by omega), nextw_wl bl (by omega)]
theorem wds_lt {bl : Nat → Nat} (hb : ∀ i, bl i < 256) {n : Nat} (h : n < 64) : wds bl n < 4294967296 := by
  by_cases h16 : n < 16
  · rw [wds_first bl h16]; exact acc_lt hb n 4
  · rw [wds_next bl (by omega) h]; exact ad_lt _ _

/-! ## the rounds -/
structure St where
  a : Nat
  b : Nat
  c : Nat
  d : Nat
  e : Nat
  f : Nat
  g : Nat
  h : Nat
def St.get (s : St) : Nat → Nat
  | 0 => s.a
  | 1 => s.b
  | 2 => s.c
  | 3 => s.d
  | 4 => s.e
  | 5 => s.f
  | 6 => s.g
  | 7 => s.h
  | _ => 0
def St.ok (s : St) : Prop := ∀ i, s.get i < 4294967296
def stOf (f : Nat → Nat) : St := ⟨f 0, f 1, f 2, f 3, f 4, f 5, f 6, f 7⟩
theorem stOf_get (f : Nat → Nat) {i : Nat} (h : i < 8) : (stOf f).get i = f i := by
  rcases i with _ | _ | _ | _ | _ | _ | _ | _ | i <;> first | rfl | omega
def tOf (s : St) (k w : Nat) : Nat := ad (ad (ad (ad s.h (bs1 s.e)) (chs s.e s.f s.g)) k) w
def uOf (s : St) : Nat := ad (bs0 s.a) (maj s.a s.b s.c)
def srnd (s : St) (k w : Nat) : St := ⟨ad (tOf s k w) (uOf s), s.a, s.b, s.c, ad s.d (tOf s k w), s.e, s.f, s.g⟩
theorem tOf_lt (s : St) (k w : Nat) : tOf s k w < 4294967296 := ad_lt _ _
theorem uOf_lt (s : St) : uOf s < 4294967296 := ad_lt _ _
theorem St.ok_mk {a b c d e f g h : Nat} (ha : a < 4294967296) (hb : b < 4294967296) (hc : c < 4294967296) (hd : d < 4294967296) (he : e < 4294967296) (hf : f < 4294967296) (hg : g < 4294967296) (hh : h < 4294967296) : (St.mk a b c d e f g h).ok := by
  intro i
  rcases i with _ | _ | _ | _ | _ | _ | _ | _ | i <;> simp only [St.get] <;> first | assumption | omega
theorem rnd_ok {s : St} (h : s.ok) (k w : Nat) : (srnd s k w).ok :=
  St.ok_mk (ad_lt _ _) (h 0) (h 1) (h 2) (ad_lt _ _) (h 4) (h 5) (h 6)
def rounds (K W : Nat → Nat) (s : St) : Nat → St
  | 0 => s
  | i + 1 => srnd (rounds K W s i) (K i) (W i)
theorem rounds_ok {K W : Nat → Nat} {s : St} (h : s.ok) (i : Nat) : (rounds K W s i).ok := by
  induction i with
  | zero => exact h
  | succ i ih => exact rnd_ok ih _ _
theorem rounds_succ (K W : Nat → Nat) (s : St) (i : Nat) : rounds K W s (i + 1) = srnd (rounds K W s i) (K i) (W i) := by rw [rounds]
theorem rnd_a (s : St) (k w : Nat) : (srnd s k w).a = ad (tOf s k w) (uOf s) := by simp only [srnd]
theorem rnd_b (s : St) (k w : Nat) : (srnd s k w).b = s.a := by simp only [srnd]
theorem rnd_c (s : St) (k w : Nat) : (srnd s k w).c = s.b := by simp only [srnd]
theorem rnd_d (s : St) (k w : Nat) : (srnd s k w).d = s.c := by simp only [srnd]
theorem rnd_e (s : St) (k w : Nat) : (srnd s k w).e = ad s.d (tOf s k w) := by simp only [srnd]
theorem rnd_f (s : St) (k w : Nat) : (srnd s k w).f = s.e := by simp only [srnd]
theorem rnd_g (s : St) (k w : Nat) : (srnd s k w).g = s.f := by simp only [srnd]
theorem rnd_h (s : St) (k w : Nat) : (srnd s k w).h = s.g := by simp only [srnd]
def addSt (s r : St) : St := ⟨ad s.a r.a, ad s.b r.b, ad s.c r.c, ad s.d r.d, ad s.e r.e, ad s.f r.f, ad s.g r.g, ad s.h r.h⟩
theorem addSt_get (s r : St) {i : Nat} (h : i < 8) : (addSt s r).get i = ad (s.get i) (r.get i) := by
  unfold addSt
  rcases i with _ | _ | _ | _ | _ | _ | _ | _ | i <;> first | (simp only [St.get]; done) | omega
theorem addSt_ok (s r : St) : (addSt s r).ok := St.ok_mk (ad_lt _ _) (ad_lt _ _) (ad_lt _ _) (ad_lt _ _) (ad_lt _ _) (ad_lt _ _) (ad_lt _ _) (ad_lt _ _)
/-- the state after a block -/
def blk (K : Nat → Nat) (s : St) (bl : Nat → Nat) : St := addSt s (rounds K (wds bl) s 64)
theorem blk_ok (K : Nat → Nat) (s : St) (bl : Nat → Nat) : (blk K s bl).ok := addSt_ok _ _

/-! ## the digest -/
/-- byte i of the words of a state -/
def dig (s : St) (i : Nat) : Nat := s.get (i / 4) / 2 ^ (24 - i % 4 * 8) % 256
theorem dig_lt (s : St) (i : Nat) : dig s i < 256 := Nat.mod_lt _ (by decide)
def st0 : St := ⟨1779033703, 3144134277, 1013904242, 2773480762, 1359893119, 2600822924, 528734635, 1541459225⟩
theorem st0_ok : st0.ok := St.ok_mk (by decide) (by decide) (by decide) (by decide) (by decide) (by decide) (by decide) (by decide)

/-! ## the padding -/
/-- the zero bytes of the padding of n bytes -/
def zeros (n : Nat) : Nat := (119 - n % 64) % 64
theorem zeros_lt (n : Nat) : zeros n < 64 := Nat.mod_lt _ (by decide)
theorem zeros_fill (n : Nat) : (n + 1 + zeros n + 8) % 64 = 0 := by unfold zeros; omega
/-- the size of n bytes in bits, as 8 bytes -/
def size8 (n : Nat) : List UInt8 := (List.range 8).map fun i => UInt8.ofNat (8 * n / 2 ^ (8 * (7 - i)))
def pad (n : Nat) : List UInt8 := 128 :: (List.replicate (zeros n) 0 ++ size8 n)
theorem pad_len (n : Nat) : (pad n).length = 1 + zeros n + 8 := by simp [pad, size8]; omega
theorem pad_fill (n : Nat) : (n + (pad n).length) % 64 = 0 := by rw [pad_len]; have := zeros_fill n; omega

/-! ## the blocks of bytes -/
/-- a list of bytes as numbers -/
def byt (l : List UInt8) (i : Nat) : Nat := (l.getD i 0).toNat
theorem byt_lt (l : List UInt8) (i : Nat) : byt l i < 256 := UInt8.toNat_lt _
/-- the state after m blocks of l -/
def run (K : Nat → Nat) (s : St) (l : List UInt8) : Nat → St
  | 0 => s
  | m + 1 => blk K (run K s l m) (byt (l.drop (64 * m)))
theorem run_succ (K : Nat → Nat) (s : St) (l : List UInt8) (m : Nat) : run K s l (m + 1) = blk K (run K s l m) (byt (l.drop (64 * m))) := by rw [run]
theorem run_ok (K : Nat → Nat) {s : St} (h : s.ok) (l : List UInt8) (m : Nat) : (run K s l m).ok := by
  cases m with
  | zero => rw [run]; exact h
  | succ m => rw [run_succ]; exact blk_ok _ _ _
/-- the digest of bytes -/
def sum (K : Nat → Nat) (l : List UInt8) : Nat → Nat := dig (run K st0 (l ++ pad l.length) ((l ++ pad l.length).length / 64))

end Go.Proofs.YtagegigffohcbaaGreatDoor

namespace Go.Proofs.YtagegigffohcbaaGreatDoor
open Go.RowKit

theorem ret_u32 {a b : Int} (h : a = b) : Ending.returned (.int .u32 a) = .returned (.int .u32 b) := by rw [h]
theorem rot_count (n : Nat) (h1 : 1 ≤ n) (h2 : n ≤ 31) : bits .and .u64 (IntKind.u64.wrap (-(n : Int))) 31 = 32 - (n : Int) := by
  have e : IntKind.u64.wrap (-(n : Int)) = ((18446744073709551616 - n : Nat) : Int) := by
    rw [IntKind.wrap_u64]; omega
  rw [e, show (31 : Int) = ((31 : Nat) : Int) from rfl, u64_and_nat _ _ (by omega) (by omega)]
  have h : (18446744073709551616 - n) &&& 31 = (18446744073709551616 - n) % 32 := Nat.and_two_pow_sub_one_eq_mod _ 5
  rw [h]
  omega
theorem rr_int (x n : Nat) (hx : x < 4294967296) : bits .or .u32 ((x : Int) * 2 ^ (32 - n) % 4294967296) ((x : Int) / 2 ^ n) = (rr x n : Nat) := by
  have e1 : (x : Int) * 2 ^ (32 - n) % 4294967296 = ((x * 2 ^ (32 - n) % 4294967296 : Nat) : Int) := by
    rw [Int.natCast_emod, Int.natCast_mul, Int.natCast_pow]; rfl
  have e2 : (x : Int) / 2 ^ n = ((x / 2 ^ n : Nat) : Int) := by
    rw [Int.natCast_ediv, Int.natCast_pow]; rfl
  rw [e1, e2, u32_or_nat _ _ (Nat.mod_lt _ (by decide)) (Nat.lt_of_le_of_lt (Nat.div_le_self _ _) hx)]
  rfl
theorem rr_int' (x n : Nat) (hx : x < 4294967296) : bits .or .u32 ((x : Int) / 2 ^ n) ((x : Int) * 2 ^ (32 - n) % 4294967296) = (rr x n : Nat) := by
  rw [← rr_int x n hx]
  have e1 : (x : Int) * 2 ^ (32 - n) % 4294967296 = ((x * 2 ^ (32 - n) % 4294967296 : Nat) : Int) := by
    rw [Int.natCast_emod, Int.natCast_mul, Int.natCast_pow]; rfl
  have e2 : (x : Int) / 2 ^ n = ((x / 2 ^ n : Nat) : Int) := by
    rw [Int.natCast_ediv, Int.natCast_pow]; rfl
  rw [e1, e2, u32_or_nat _ _ (Nat.mod_lt _ (by decide)) (Nat.lt_of_le_of_lt (Nat.div_le_self _ _) hx), u32_or_nat _ _ (Nat.lt_of_le_of_lt (Nat.div_le_self _ _) hx) (Nat.mod_lt _ (by decide)), Nat.or_comm]

set_option maxHeartbeats 400000 in
theorem rotl_c (x n : Nat) (hx : x < 4294967296) (h1 : 1 ≤ n) (h2 : n ≤ 31) (w : World) :
    Calls Tryz.prog 104 #[.int .u32 x, .int .i64 (-(n : Int))] w fun e w' => e = .returned (.int .u32 (rr x n : Nat)) ∧ w = w' := by
  have e := rot_count n h1 h2
  have H := Lib.hid (rr_int x n hx)
  have h3 : 0 ≤ 32 - (n : Int) := by omega
  go_enter Tryz.func104, Tryz.ntmps104
  go_wp2
  go_ret
  exact ⟨ret_u32 (by rw [show 32 - (32 - n) = n by omega]; exact H.out), rfl⟩
set_option maxHeartbeats 400000 in
theorem rrot_c (x n : Nat) (hx : x < 4294967296) (h1 : 1 ≤ n) (h2 : n ≤ 31) (w : World) :
    Calls Tryz.prog 87 #[.int .u32 x, .int .u64 (n : Int)] w fun e w' => e = .returned (.int .u32 (rr x n : Nat)) ∧ w = w' := by
  have H := Lib.hid (rr_int' x n hx)
  go_enter Tryz.func87, Tryz.ntmps87
  go_wp2
  go_ret
  exact ⟨ret_u32 H.out, rfl⟩
theorem or_byte (x c : Nat) (hx : x < 16777216) (hc : c < 256) : bits .or .u32 ((x : Int) * 256 % 4294967296) ((c : Int) % 4294967296) = ((x * 256 + c : Nat) : Int) := by
  have e1 : (x : Int) * 256 % 4294967296 = ((x * 256 : Nat) : Int) := by omega
  have e2 : (c : Int) % 4294967296 = ((c : Nat) : Int) := by omega
  rw [e1, e2, u32_or_nat _ _ (by omega) (by omega)]
  have h := Nat.two_pow_add_eq_or_of_lt (i := 8) (b := c) (by omega) x
  rw [show x * 256 + c = 2 ^ 8 * x + c by omega, h, Nat.mul_comm x 256]
theorem cast_div (x k : Nat) : (x : Int) / (k : Int) = ((x / k : Nat) : Int) := (Int.natCast_ediv x k).symm
theorem sg0_int (x : Nat) (h : x < 4294967296) : bits .xor .u32 (bits .xor .u32 (rr x 7 : Nat) (rr x 18 : Nat)) ((x : Int) / 8) = (sg0 x : Nat) := by
  rw [u32_xor_nat _ _ (rr_lt h _) (rr_lt h _), show (x : Int) / 8 = ((x / 8 : Nat) : Int) from cast_div x 8, u32_xor_nat _ _ (xor_lt (rr_lt h _) (rr_lt h _)) (by omega)]
  rfl
theorem sg1_int (x : Nat) (h : x < 4294967296) : bits .xor .u32 (bits .xor .u32 (rr x 17 : Nat) (rr x 19 : Nat)) ((x : Int) / 1024) = (sg1 x : Nat) := by
  rw [u32_xor_nat _ _ (rr_lt h _) (rr_lt h _), show (x : Int) / 1024 = ((x / 1024 : Nat) : Int) from cast_div x 1024, u32_xor_nat _ _ (xor_lt (rr_lt h _) (rr_lt h _)) (by omega)]
  rfl
theorem ad4 (a b c d : Nat) : ((ad (ad (ad a b) c) d : Nat) : Int) = ((a : Int) + b + c + d) % 4294967296 := by unfold ad; omega
theorem sched_sum (a c x y : Nat) (hx : x < 4294967296) (hy : y < 4294967296) :
    ((a : Int) + bits .xor .u32 (bits .xor .u32 (rr x 7 : Nat) (rr x 18 : Nat)) ((x : Int) / 8) + c + bits .xor .u32 (bits .xor .u32 (rr y 17 : Nat) (rr y 19 : Nat)) ((y : Int) / 1024)) % 4294967296 = (ad (ad (ad a (sg0 x)) c) (sg1 y) : Nat) := by
  rw [sg0_int x hx, sg1_int y hy, ad4]
theorem bs0_int (x : Nat) (h : x < 4294967296) : bits .xor .u32 (bits .xor .u32 (rr x 2 : Nat) (rr x 13 : Nat)) (rr x 22 : Nat) = (bs0 x : Nat) := by
  rw [u32_xor_nat _ _ (rr_lt h _) (rr_lt h _), u32_xor_nat _ _ (xor_lt (rr_lt h _) (rr_lt h _)) (rr_lt h _)]
  rfl
theorem bs1_int (x : Nat) (h : x < 4294967296) : bits .xor .u32 (bits .xor .u32 (rr x 6 : Nat) (rr x 11 : Nat)) (rr x 25 : Nat) = (bs1 x : Nat) := by
  rw [u32_xor_nat _ _ (rr_lt h _) (rr_lt h _), u32_xor_nat _ _ (xor_lt (rr_lt h _) (rr_lt h _)) (rr_lt h _)]
  rfl
theorem nt_xor (e : Nat) (h : e < 4294967296) : 4294967295 ^^^ e = 4294967295 - e := by
  have h1 : ((BitVec.allOnes 32) ^^^ (BitVec.ofNat 32 e)).toNat = (~~~ (BitVec.ofNat 32 e)).toNat := by rw [BitVec.allOnes_xor]
  rw [BitVec.toNat_xor, BitVec.toNat_not, BitVec.toNat_ofNat, Nat.mod_eq_of_lt h, BitVec.toNat_allOnes] at h1
  exact h1
theorem nt_int (e : Nat) (h : e < 4294967296) : bits .xor .u32 (if IntKind.u32.signed = true then -1 else IntKind.u32.max) (e : Int) = (nt e : Nat) := by
  have e1 : (if IntKind.u32.signed = true then -1 else IntKind.u32.max) = ((4294967295 : Nat) : Int) := by rfl
  rw [e1, u32_xor_nat _ _ (by decide) h]
  rw [nt_xor e h]
  rfl
theorem chs_int (e f g : Nat) (he : e < 4294967296) (hf : f < 4294967296) (hg : g < 4294967296) :
    bits .xor .u32 (bits .and .u32 (e : Int) (f : Int)) (bits .and .u32 (bits .xor .u32 (if IntKind.u32.signed = true then -1 else IntKind.u32.max) (e : Int)) (g : Int)) = (chs e f g : Nat) := by
  rw [nt_int e he, u32_and_nat _ _ he hf, u32_and_nat _ _ (nt_lt e) hg, u32_xor_nat _ _ (and_lt he) (and_lt (nt_lt e))]
  rfl
theorem maj_int (a b c : Nat) (ha : a < 4294967296) (hb : b < 4294967296) (hc : c < 4294967296) :
    bits .xor .u32 (bits .xor .u32 (bits .and .u32 (a : Int) (b : Int)) (bits .and .u32 (a : Int) (c : Int))) (bits .and .u32 (b : Int) (c : Int)) = (maj a b c : Nat) := by
  rw [u32_and_nat _ _ ha hb, u32_and_nat _ _ ha hc, u32_and_nat _ _ hb hc, u32_xor_nat _ _ (and_lt ha) (and_lt ha), u32_xor_nat _ _ (xor_lt (and_lt ha) (and_lt ha)) (and_lt hb)]
  rfl
theorem t_int (s : St) (hs : s.ok) (k x : Nat) :
    (((s.h : Int) + bits .xor .u32 (bits .xor .u32 (rr s.e 6 : Nat) (rr s.e 11 : Nat)) (rr s.e 25 : Nat) +
      bits .xor .u32 (bits .and .u32 (s.e : Int) (s.f : Int)) (bits .and .u32 (bits .xor .u32 (if IntKind.u32.signed = true then -1 else IntKind.u32.max) (s.e : Int)) (s.g : Int)) + (k : Int)) % 4294967296 + (x : Int)) % 4294967296 = (tOf s k x : Nat) := by
  rw [bs1_int s.e (hs 4), chs_int s.e s.f s.g (hs 4) (hs 5) (hs 6)]
  unfold tOf ad
  omega
theorem u_int (s : St) (hs : s.ok) :
    (bits .xor .u32 (bits .xor .u32 (rr s.a 2 : Nat) (rr s.a 13 : Nat)) (rr s.a 22 : Nat) + bits .xor .u32 (bits .xor .u32 (bits .and .u32 (s.a : Int) (s.b : Int)) (bits .and .u32 (s.a : Int) (s.c : Int))) (bits .and .u32 (s.b : Int) (s.c : Int))) % 4294967296 = (uOf s : Nat) := by
  rw [bs0_int s.a (hs 0), maj_int s.a s.b s.c (hs 0) (hs 1) (hs 2)]
  unfold uOf ad
  omega
set_option maxHeartbeats 400000 in
theorem srot_c (x n : Nat) (hx : x < 4294967296) (h1 : 1 ≤ n) (h2 : n ≤ 31) (w : World) :
    Calls Tryz.prog 101 #[.int .u32 x, .int .i64 (n : Int)] w fun e w' => e = .returned (.int .u32 (rr x n : Nat)) ∧ w = w' := by
  go_enter Tryz.func101, Tryz.ntmps101
  go_wp2_with (go_at_call 104; refine (rotl_c x n hx h1 h2 _).mono ?_; rintro e w' ⟨rfl, rfl⟩)
  go_ret
  exact ⟨rfl, rfl⟩

theorem rot_i (x n : Nat) (m : Int) (hm : m = n) (hx : x < 4294967296) (h1 : 1 ≤ n) (h2 : n ≤ 31) (w : World) :
    Calls Tryz.prog 101 #[.int .u32 x, .int .i64 m] w fun e w' => e = .returned (.int .u32 (rr x n : Nat)) ∧ w = w' := by
  subst hm
  exact srot_c x n hx h1 h2 w
theorem size_blk : (Tryz.prog.info? 98).map (·.size) = some 64 := by kernel_rfl
theorem size_wds : (Tryz.prog.info? 106).map (·.size) = some 64 := by kernel_rfl
theorem size_st : (Tryz.prog.info? 104).map (·.size) = some 8 := by kernel_rfl
theorem size_dig : (Tryz.prog.info? 53).map (·.size) = some 32 := by kernel_rfl
theorem size_u32 : (Tryz.prog.info? 103).map (·.size) = some 1 := by kernel_rfl
theorem tab_of {cs : Array Value} {k : IntKind} {n : Nat} (h : cs = Array.replicate n (.int k 0)) : cs = tabV k n (fun _ => 0) := by rw [h, tabV_zero]
set_option maxRecDepth 100000 in
set_option maxHeartbeats 1000000 in
theorem sched_c (bl : Nat → Nat) (hb : ∀ i, bl i < 256) (w : World) :
    Calls Tryz.prog 100 #[.agg (tabV .u8 64 bl)] w fun e w' => e = .returned (.agg (tabV .u32 64 (wds bl))) ∧ Ext w w' := by
  go_enter Tryz.func100, Tryz.ntmps100
  go_wp2_with (refine wpList_load_row rfl 98 (.tmp 1) rfl w.heap.size rfl 98 (tabV .u8 64 bl) (0, 0) _ (two_new _ _ _).1 Tryz.underlying98 rfl (by rw [tabV_size]; exact size_blk) ?_)
  go_loopw [11] (fun i wr => ∃ j : Nat, j ≤ 64 ∧ i = .int .i64 j ∧ Arr wr (w.heap.size + 1) 106 .u32 64 (wpart bl j) ∧ Ext w wr) (fun i _ => 64 - (intOf i).toNat)
  case atStart =>
    refine ⟨0, by omega, rfl, ?_, (Ext.alloc _ _).tr (Ext.alloc _ _)⟩
    unfold Arr
    refine (two_new _ _ _).2.trans ?_
    rw [tabV_congr (f' := fun _ => 0) (fun i _ => wpart_zero bl i), tabV_zero]
    rfl
  case round =>
    obtain ⟨j, hj, rfl, hA, hx⟩ := hrel
    by_cases hlt : j < 64
    · have hi := fun W => run_index_tab (P := Tryz.prog) (t := 98) Tryz.underlying98 Tryz.underlying5 size_u8 bl j hlt W
      have hc := hA.cell (i := j / 4) (by omega)
      have hf := hA.free (j / 4)
      obtain ⟨x, hxx⟩ : ∃ x, x = wpart bl j (j / 4) := ⟨_, rfl⟩
      obtain ⟨c, hcc⟩ : ∃ c, c = bl j := ⟨_, rfl⟩
      rw [← hxx] at hc
      rw [← hcc] at hi
      have HX := Lib.hid hxx
      have HC := Lib.hid hcc
      have HA := Lib.hid hA
      have HE := Lib.hid hx
      clear hxx hcc hA hx
      go_wp2_with fail
      go_roundw
      case rel =>
        refine ⟨j + 1, by omega, by go_num, ?_, Below.setCell HE.out (by simp) _⟩
        refine HA.out.to (by omega) ?_ (fun i _ hne => (wpart_other bl hne).symm)
        rw [wpart_same, ← HX.out, ← HC.out]
        exact or_byte x c (by rw [HX.out]; exact wpart_low hb j) (by rw [HC.out]; exact hb j)
      case measure => simp [intOf]; omega
    · have ej : j = 64 := by omega
      rw [ej] at hA
      clear ej
      have HA := Lib.hid (hA.congr (f' := fun i => if i < 16 then wds bl i else 0) (fun i hi => wpart_wds bl hi))
      have HE := Lib.hid hx
      clear hA hx
      go_wp2_with fail
      go_loopw [5] (fun i wr => ∃ n : Nat, 16 ≤ n ∧ n ≤ 64 ∧ i = .int .i64 n ∧ Arr wr (w.heap.size + 1) 106 .u32 64 (fun i => if i < n then wds bl i else 0) ∧ Ext w wr) (fun i _ => 64 - (intOf i).toNat)
      case atStart => exact ⟨16, by omega, by omega, rfl, HA.out, HE.out⟩
      case round =>
        obtain ⟨n, hn, hj, rfl, hA, hx⟩ := hrel
        by_cases hlt : n < 64
        · have c15 := hA.cell (i := n - 15) (by omega)
          have c2 := hA.cell (i := n - 2) (by omega)
          have c16 := hA.cell (i := n - 16) (by omega)
          have c7 := hA.cell (i := n - 7) (by omega)
          have hf := hA.free n
          have cn := hA.cell (i := n) (by omega)
          rw [if_pos (by omega)] at c15 c2 c16 c7
          rw [if_neg (by omega)] at cn
          have b1 := wds_lt hb (n := n - 15) (by omega)
          have b2 := wds_lt hb (n := n - 2) (by omega)
          obtain ⟨x, hxx⟩ : ∃ x, x = wds bl (n - 15) := ⟨_, rfl⟩
          obtain ⟨y, hyy⟩ : ∃ y, y = wds bl (n - 2) := ⟨_, rfl⟩
          rw [← hxx] at c15 b1
          rw [← hyy] at c2 b2
          have HX := Lib.hid hxx
          have HY := Lib.hid hyy
          have HA2 := Lib.hid hA
          have HE2 := Lib.hid hx
          clear hxx hyy hA hx
          have n1 : 0 ≤ (n : Int) - 15 := by omega
          have n2 : 0 ≤ (n : Int) - 2 := by omega
          have n3 : 0 ≤ (n : Int) - 16 := by omega
          have n4 : 0 ≤ (n : Int) - 7 := by omega
          have m1 : (15 : Int) ≤ n := by omega
          have m2 : (2 : Int) ≤ n := by omega
          have m3 : (16 : Int) ≤ n := by omega
          have m4 : (7 : Int) ≤ n := by omega
          go_wp2_with fail
          go_quiet (fail)
          go_wp2_with fail
          refine (rot_i x 7 7 rfl b1 (by omega) (by omega) _).mono ?_
          rintro e w' ⟨rfl, rfl⟩
          go_wp2_with fail
          refine (rot_i x 18 18 rfl b1 (by omega) (by omega) _).mono ?_
          rintro e w' ⟨rfl, rfl⟩
          go_wp2_with fail
          refine (rot_i y 17 17 rfl b2 (by omega) (by omega) _).mono ?_
          rintro e w' ⟨rfl, rfl⟩
          go_wp2_with fail
          refine (rot_i y 19 19 rfl b2 (by omega) (by omega) _).mono ?_
          rintro e w' ⟨rfl, rfl⟩
          go_wp2_with fail
          go_region
          go_wp2_with fail
          go_roundw
          case rel =>
            refine ⟨n + 1, by omega, by omega, by go_num, ?_, Below.setCell (HE2.out.tr (Ext.drewN _ _)) (by simp) _⟩
            refine Arr.to (f := fun i => if i < n then wds bl i else 0) HA2.out (by omega) ?_ (fun i _ hne => ?_)
            · rw [if_pos (by omega), wds_next bl hn hlt, ← HX.out, ← HY.out]
              exact sched_sum _ _ x y b1 b2
            · by_cases hi : i < n
              · rw [if_pos hi, if_pos (by omega)]
              · rw [if_neg hi, if_neg (by omega)]
          case measure => simp [intOf]; omega
        · have ej : n = 64 := by omega
          rw [ej] at hA
          clear ej
          have HA := Lib.hid (hA.congr (f' := wds bl) (fun i hi => if_pos hi))
          have HE := Lib.hid hx
          clear hA hx
          go_wp2_with (first | (refine wpList_load_row rfl 106 (.tmp 2) rfl (w.heap.size + 1) rfl 106 (tabV .u32 64 (wds bl)) (0, 0) _ HA.out Tryz.underlying106 rfl (by rw [tabV_size]; exact size_wds) ?_) | (refine wpList_store_row rfl 106 (.tmp 2) (.tmp 70) rfl (w.heap.size + 1) (tabV .u32 64 (wds bl)) rfl rfl 106 _ HA.out (by rw [tabV_size]; exact size_wds) rfl tabV_one ?_))
          have hr := HA.out.row (wds bl)
          refine bodyPost_ret (v := .agg (tabV .u32 64 (wds bl))) ?_ rfl ⟨rfl, ext_setRow HE.out (by simp) _⟩
          exact results_cell_row rfl _ _ _ _ _ _ _ rfl hr Tryz.underlying106 rfl (by rw [tabV_size]; exact size_wds)
end Go.Proofs.YtagegigffohcbaaGreatDoor

namespace Go.Proofs.YtagegigffohcbaaGreatDoor
open Go.RowKit

/-- the constants -/
def kL : List Nat := [1116352408, 1899447441, 3049323471, 3921009573, 961987163, 1508970993, 2453635748, 2870763221, 3624381080, 310598401, 607225278, 1426881987, 1925078388, 2162078206, 2614888103, 3248222580, 3835390401, 4022224774, 264347078, 604807628, 770255983, 1249150122, 1555081692, 1996064986, 2554220882, 2821834349, 2952996808, 3210313671, 3336571891, 3584528711, 113926993, 338241895, 666307205, 773529912, 1294757372, 1396182291, 1695183700, 1986661051, 2177026350, 2456956037, 2730485921, 2820302411, 3259730800, 3345764771, 3516065817, 3600352804, 4094571909, 275423344, 430227734, 506948616, 659060556, 883997877, 958139571, 1322822218, 1537002063, 1747873779, 1955562222, 2024104815, 2227730452, 2361852424, 2428436474, 2756734187, 3204031479, 3329325298]
def kc (i : Nat) : Nat := kL.getD i 0
/-- the variable of the constants holds them -/
def Tab (w : World) : Prop := ∃ cs t fr, w.heap[0]? = some (.cells cs t fr) ∧ ∀ i, i < 64 → cs[i]? = some (.int .u32 (kc i : Nat))
theorem Tab.ext {w w' : World} (h : Tab w) (hx : Ext w w') : Tab w' := by
  obtain ⟨cs, t, fr, hh, hc⟩ := h
  exact ⟨cs, t, fr, hx.get hh, hc⟩
theorem Tab.cell {w : World} (h : Tab w) {i : Nat} (hi : i < 64) : w.cell? ⟨0, i, none⟩ = some (.int .u32 (kc i : Nat)) := by
  obtain ⟨cs, t, fr, hh, hc⟩ := h
  rw [cells_of hh]
  exact hc i hi

/-- a rotation, inside a quiet region -/
theorem rot_q (x n : Nat) (m : Int) (hm : m = n) (hx : x < 4294967296) (h1 : 1 ≤ n) (h2 : n ≤ 31) (w : World) : ∀ a : Nat, Calls Tryz.prog 101 #[.int .u32 x, .int .i64 m] (w.drewN a) fun e w'' => e = .returned (.int .u32 (rr x n : Nat)) ∧ ∃ b, w'' = w.drewN b :=
  fun _ => quiet_eq (rot_i x n m hm hx h1 h2 _)
theorem v32 {a b : Int} (h : a = b) : Value.int .u32 a = Value.int .u32 b := by rw [h]
theorem zero_u32 (n : Nat) : Array.replicate n (Value.int .u32 0) = tabV .u32 n (fun _ => 0) := (tabV_zero .u32 n).symm

set_option maxRecDepth 100000 in
set_option maxHeartbeats 4000000 in
theorem sblock_c (st : St) (hst : st.ok) (bl : Nat → Nat) (hb : ∀ i, bl i < 256) (w : World) (ht : Tab w) :
    Calls Tryz.prog 91 #[.agg (tabV .u32 8 st.get), .agg (tabV .u8 64 bl)] w fun e w' => e = .returned (.agg (tabV .u32 8 (blk kc st bl).get)) ∧ Ext w w' := by
  go_enter Tryz.func91, Tryz.ntmps91
  go_wp2_with (refine wpList_load_row rfl 98 (.tmp 3) rfl (w.heap.size + 1) rfl 98 (tabV .u8 64 bl) (0, 0) _ (new3 _ _ _ _).2.1 Tryz.underlying98 rfl (by rw [tabV_size]; exact size_blk) ?_)
  refine (sched_c bl hb _).mono ?_
  rintro e w1 ⟨rfl, hx1⟩
  obtain ⟨d0, _, d2⟩ := new3 w (.cells (tabV .u32 8 st.get) 104) (.cells (tabV .u8 64 bl) 98) (.cells (tabV .u32 8 (fun _ => 0)) 104)
  have a0 : Arr w1 w.heap.size 104 .u32 8 st.get := hx1.get d0
  have a2 : Arr w1 (w.heap.size + 1 + 1) 104 .u32 8 (fun _ => 0) := hx1.get d2
  have hx : Ext w w1 := (((Ext.alloc _ _).tr (Ext.alloc _ _)).tr (Ext.alloc _ _)).tr hx1
  have A0 := Lib.hid a0
  have A2 := Lib.hid a2
  have HX := Lib.hid hx
  have HT := Lib.hid ht
  have HS := Lib.hid hst
  clear hx1 d0 d2 a0 a2 hx ht hst
  go_wp2_with (refine wpList_store_arr rfl 106 (.tmp 5) (.tmp 20) rfl w1.heap.size .u32 64 (wds bl) rfl rfl 106 _ (new_of _ _) size_wds rfl ?_; intro W hA hG)
  have x1 : Ext w1 W := grown_new (Ext.alloc _ _) hG (fun g hg => by simp at hg; omega)
  have A5 := Lib.hid hA
  have B0 := A0.out.ext x1
  have B2 := Lib.hid (A2.out.ext x1)
  have HX1 := Lib.hid (HX.out.tr x1)
  have c0 := B0.cell (i := 0) (by omega)
  have c1 := B0.cell (i := 1) (by omega)
  have c2 := B0.cell (i := 2) (by omega)
  have c3 := B0.cell (i := 3) (by omega)
  have c4 := B0.cell (i := 4) (by omega)
  have c5 := B0.cell (i := 5) (by omega)
  have c6 := B0.cell (i := 6) (by omega)
  have c7 := B0.cell (i := 7) (by omega)
  simp only [St.get] at c0 c1 c2 c3 c4 c5 c6 c7
  have HB0 := Lib.hid B0
  clear hA hG x1 B0 A0 A2 HX
  go_quiet (fail)
  go_wp2_with fail
  go_quiet (fail)
  go_wp2_with fail
  clear c0 c1 c2 c3 c4 c5 c6 c7
  go_loopw [6, 7, 8, 9, 10, 11, 12, 13, 37] (fun a b c d e f g h i wr => ∃ j : Nat, j ≤ 64 ∧ i = .int .i64 j ∧ a = .int .u32 (rounds kc (wds bl) st j).a ∧ b = .int .u32 (rounds kc (wds bl) st j).b ∧ c = .int .u32 (rounds kc (wds bl) st j).c ∧
    d = .int .u32 (rounds kc (wds bl) st j).d ∧ e = .int .u32 (rounds kc (wds bl) st j).e ∧ f = .int .u32 (rounds kc (wds bl) st j).f ∧ g = .int .u32 (rounds kc (wds bl) st j).g ∧ h = .int .u32 (rounds kc (wds bl) st j).h ∧ Ext W wr) (fun _ _ _ _ _ _ _ _ i _ => 64 - (intOf i).toNat)
  case atStart => exact ⟨0, by omega, rfl, rfl, rfl, rfl, rfl, rfl, rfl, rfl, rfl, (Ext.drewN _ _).tr (Ext.drewN _ _)⟩
  case round =>
    obtain ⟨j, hj, rfl, rfl, rfl, rfl, rfl, rfl, rfl, rfl, rfl, hxr⟩ := hrel
    have hok := rounds_ok (K := kc) (W := wds bl) HS.out j
    obtain ⟨s, hs⟩ : ∃ s, s = rounds kc (wds bl) st j := ⟨_, rfl⟩
    rw [← hs] at hok ⊢
    by_cases hlt : j < 64
    · have hk := (HT.out.ext (HX1.out.tr hxr)).cell hlt
      have hw := (A5.out.ext hxr).cell hlt
      have oe := hok 4
      have oa := hok 0
      simp only [St.get] at oe oa
      obtain ⟨k, hkk⟩ : ∃ k, k = kc j := ⟨_, rfl⟩
      obtain ⟨x, hxx⟩ : ∃ x, x = wds bl j := ⟨_, rfl⟩
      rw [← hkk] at hk
      rw [← hxx] at hw
      have HK := Lib.hid hkk
      have HXX := Lib.hid hxx
      have HSS := Lib.hid hs
      have HOK := Lib.hid hok
      have HXR := Lib.hid hxr
      have H6 := Lib.hid (rot_q s.e 6 6 rfl oe (by omega) (by omega) wr)
      have H11 := Lib.hid (rot_q s.e 11 11 rfl oe (by omega) (by omega) wr)
      have H25 := Lib.hid (rot_q s.e 25 25 rfl oe (by omega) (by omega) wr)
      clear hkk hxx hs hok hxr
      go_wp2_with fail
      go_quiet ((go_at_call 101; first | with_reducible exact H6.out _ | with_reducible exact H11.out _ | with_reducible exact H25.out _))
      rw [t_int s HOK.out k x]
      obtain ⟨t, htt⟩ : ∃ t, t = tOf s k x := ⟨_, rfl⟩
      rw [← htt]
      have HTT := Lib.hid htt
      have H2 := Lib.hid (rot_i s.a 2 2 rfl oa (by omega) (by omega))
      have H13 := Lib.hid (rot_i s.a 13 13 rfl oa (by omega) (by omega))
      have H22 := Lib.hid (rot_i s.a 22 22 rfl oa (by omega) (by omega))
      clear htt H6 H11 H25 hk hw
      go_wp2_with fail
      (with_reducible refine (H2.out _).mono ?_)
      rintro e w' ⟨rfl, rfl⟩
      go_wp2_with fail
      (with_reducible refine (H13.out _).mono ?_)
      rintro e w' ⟨rfl, rfl⟩
      go_wp2_with fail
      (with_reducible refine (H22.out _).mono ?_)
      rintro e w' ⟨rfl, rfl⟩
      go_wp2_with fail
      go_roundw
      case rel =>
        have er : rounds kc (wds bl) st (j + 1) = srnd s k x := by rw [rounds_succ, ← HSS.out, ← HK.out, ← HXX.out]
        refine ⟨j + 1, by omega, by go_num, v32 ?_, v32 ?_, v32 ?_, v32 ?_, v32 ?_, v32 ?_, v32 ?_, v32 ?_, HXR.out.tr (Ext.drewN _ _)⟩
        · rw [er, rnd_a, ← HTT.out, u_int s HOK.out]
          unfold ad
          omega
        · rw [er, rnd_b]
        · rw [er, rnd_c]
        · rw [er, rnd_d]
        · rw [er, rnd_e, ← HTT.out]
          unfold ad
          omega
        · rw [er, rnd_f]
        · rw [er, rnd_g]
        · rw [er, rnd_h]
      case measure => simp [intOf]; omega
    · have ej : j = 64 := by omega
      have HSS := Lib.hid hs
      rw [ej] at hs
      have HS64 := Lib.hid hs
      have HB0' := Lib.hid (HB0.out.ext hxr)
      have HB2' := Lib.hid (B2.out.ext hxr)
      have HXR := Lib.hid (HX1.out.tr hxr)
      clear hs ej hxr hok HB0 B2 HX1 A5
      go_wp2_with fail
      have e108 : (#[Value.int .u32 (s.a : Int), Value.int .u32 (s.b : Int), Value.int .u32 (s.c : Int), Value.int .u32 (s.d : Int), Value.int .u32 (s.e : Int), Value.int .u32 (s.f : Int), Value.int .u32 (s.g : Int), Value.int .u32 (s.h : Int)] : Array Value) = tabV .u32 8 s.get := rfl
      rw [e108]
      clear e108
      obtain ⟨wo, hwo⟩ : ∃ wo : World, wo = wr := ⟨_, rfl⟩
      rw [← hwo] at HB0' HB2' HXR ⊢
      clear hwo
      go_loopw [109] (fun i wr => ∃ n : Nat, n ≤ 8 ∧ i = .int .i64 n ∧ Arr wr w.heap.size 104 .u32 8 (fun i => if i < n then ad (st.get i) (s.get i) else st.get i) ∧ Arr wr (w.heap.size + 1 + 1) 104 .u32 8 (fun _ => 0) ∧ Ext w wr) (fun i _ => 8 - (intOf i).toNat)
      case atStart => exact ⟨0, by omega, rfl, HB0'.out, HB2'.out, HXR.out⟩
      case round =>
        obtain ⟨n, hn, rfl, hA, hB, hx⟩ := hrel
        by_cases hlt : n < 8
        · have hi := fun W => run_index_tab (P := Tryz.prog) (t := 104) Tryz.underlying104 Tryz.underlying103 size_u32 s.get n hlt W
          have hc := hA.cell (i := n) hlt
          have hf := hA.free n
          rw [if_neg (by omega)] at hc
          have HA := Lib.hid hA
          have HB := Lib.hid hB
          have HE := Lib.hid hx
          clear hA hB hx
          go_wp2_with fail
          go_roundw
          case rel =>
            refine ⟨n + 1, by omega, by go_num, ?_, HB.out.other (by omega) _ _, Below.setCell HE.out (by simp) _⟩
            refine Arr.to (f := fun i => if i < n then ad (st.get i) (s.get i) else st.get i) HA.out hlt ?_ (fun i _ hne => ?_)
            · rw [if_pos (by omega)]
              unfold ad
              omega
            · by_cases hi : i < n
              · rw [if_pos hi, if_pos (by omega)]
              · rw [if_neg hi, if_neg (by omega)]
          case measure => simp [intOf]; omega
        · have en : n = 8 := by omega
          rw [en] at hA
          clear en
          have hA' := hA.congr (f' := (blk kc st bl).get) (fun i hi => by rw [if_pos hi, blk, addSt_get _ _ hi, ← HS64.out])
          have HA := Lib.hid hA'
          have HB := Lib.hid hB
          have HE := Lib.hid hx
          clear hA hA' hB hx
          go_wp2_with (first | (refine wpList_load_arr rfl 104 (.tmp 2) rfl w.heap.size rfl 104 .u32 8 (blk kc st bl).get _ HA.out Tryz.underlying104 size_st ?_) | (refine wpList_store_arr rfl 104 (.tmp 4) (.tmp 120) rfl (w.heap.size + 1 + 1) .u32 8 (blk kc st bl).get rfl rfl 104 _ HB.out size_st tabV_size ?_; intro W3 hA3 hG3))
          refine bodyPost_ret (v := .agg (tabV .u32 8 (blk kc st bl).get)) ?_ rfl ⟨rfl, grown_new HE.out hG3 (fun g hg => by simp at hg; omega)⟩
          exact results_cell_row rfl _ _ _ _ _ _ _ rfl hA3 Tryz.underlying104 rfl (by rw [tabV_size]; exact size_st)
end Go.Proofs.YtagegigffohcbaaGreatDoor

namespace Go.Proofs.YtagegigffohcbaaGreatDoor
open Go.RowKit

set_option maxRecDepth 100000 in
set_option maxHeartbeats 1000000 in
theorem start_c (w : World) : Calls Tryz.prog 89 #[] w fun e w' => e = .returned (.agg (tabV .u32 8 st0.get)) ∧ Ext w w' := by
  go_enter Tryz.func89, Tryz.ntmps89
  go_wp2_with fail
  have hA : Arr (w.alloc (.cells (tabV .u32 8 st0.get) 104)) w.heap.size 104 .u32 8 st0.get := Arr.new _ _ _ _ _
  refine bodyPost_ret (v := .agg (tabV .u32 8 st0.get)) ?_ rfl ⟨rfl, Ext.alloc _ _⟩
  exact results_cell_row rfl _ _ _ _ _ _ _ rfl hA Tryz.underlying104 rfl (by rw [tabV_size]; exact size_st)
set_option maxRecDepth 100000 in
set_option maxHeartbeats 1000000 in
theorem digest_c (s : St) (w : World) : Calls Tryz.prog 93 #[.agg (tabV .u32 8 s.get)] w fun e w' => e = .returned (.agg (tabV .u8 32 (dig s))) ∧ Ext w w' := by
  go_enter Tryz.func93, Tryz.ntmps93
  go_wp2_with fail
  go_loopw [4] (fun i wr => ∃ n : Nat, n ≤ 32 ∧ i = .int .i64 n ∧ Arr wr w.heap.size 104 .u32 8 s.get ∧ Arr wr (w.heap.size + 1) 53 .u8 32 (fun i => if i < n then dig s i else 0) ∧ Ext w wr) (fun i _ => 32 - (intOf i).toNat)
  case atStart =>
    refine ⟨0, by omega, rfl, (two_new _ _ _).1, ?_, (Ext.alloc _ _).tr (Ext.alloc _ _)⟩
    unfold Arr
    refine (two_new _ _ _).2.trans ?_
    rw [tabV_congr (f' := fun _ => 0) (fun i _ => if_neg (by omega)), tabV_zero]
    rfl
  case round =>
    obtain ⟨n, hn, rfl, hS, hA, hx⟩ := hrel
    by_cases hlt : n < 32
    · have hc := hS.cell (i := n / 4) (by omega)
      have hcn := hA.cell (i := n) hlt
      have hf := hA.free n
      have HA := Lib.hid hA
      have HS := Lib.hid hS
      have HE := Lib.hid hx
      have m1 : 0 ≤ 24 - (n : Int) % 4 * 8 := by omega
      have m2 : (n : Int) % 4 * 8 ≤ 24 := by omega
      clear hA hS hx
      go_wp2_with fail
      go_roundw
      case rel =>
        refine ⟨n + 1, by omega, by go_num, HS.out.other (by omega) _ _, ?_, Below.setCell HE.out (by simp) _⟩
        refine Arr.to (f := fun i => if i < n then dig s i else 0) HA.out hlt ?_ (fun i _ hne => ?_)
        · rw [if_pos (by omega), dig, Int.natCast_emod, Int.natCast_ediv, Int.natCast_pow]
          rfl
        · by_cases hi : i < n
          · rw [if_pos hi, if_pos (by omega)]
          · rw [if_neg hi, if_neg (by omega)]
      case measure => simp [intOf]; omega
    · have en : n = 32 := by omega
      rw [en] at hA
      clear en
      have HA := Lib.hid (hA.congr (f' := dig s) (fun i hi => if_pos hi))
      have HE := Lib.hid hx
      clear hA hS hx
      go_wp2_with (first | (refine wpList_load_arr rfl 53 (.tmp 2) rfl (w.heap.size + 1) rfl 53 .u8 32 (dig s) _ HA.out Tryz.underlying53 size_dig ?_) | (refine wpList_store_arr rfl 53 (.tmp 2) (.tmp 20) rfl (w.heap.size + 1) .u8 32 (dig s) rfl rfl 53 _ HA.out size_dig tabV_size ?_; intro W3 hA3 hG3))
      refine bodyPost_ret (v := .agg (tabV .u8 32 (dig s))) ?_ rfl ⟨rfl, grown_new HE.out hG3 (fun g hg => by simp at hg; omega)⟩
      exact results_cell_row rfl _ _ _ _ _ _ _ rfl hA3 Tryz.underlying53 rfl (by rw [tabV_size]; exact size_dig)
/-- the padding while it is written: i bytes of the size -/
def padAt (n z i : Nat) : List UInt8 := (List.range (1 + z + 8)).map fun j => if j = 0 then 128 else if z + 9 - i ≤ j then UInt8.ofNat (8 * n / 2 ^ (8 * (z + 8 - j))) else 0
theorem padAt_len (n z i : Nat) : (padAt n z i).length = 1 + z + 8 := by simp [padAt]
theorem padAt_zero (n z : Nat) : (List.replicate (1 + z + 8) (0 : UInt8)).set 0 128 = padAt n z 0 := by
  apply List.ext_getElem
  · simp [padAt]
  · intro j h1 h2
    simp only [padAt, List.getElem_map, List.getElem_range, List.getElem_set, List.getElem_replicate]
    rw [padAt_len] at h2
    by_cases e : j = 0
    · subst e; simp
    · rw [if_neg (by omega), if_neg e, if_neg (by omega)]
theorem padAt_step (n z i : Nat) (hi : i < 8) : (padAt n z i).set (z + 8 - i) (UInt8.ofNat (8 * n / 2 ^ (8 * i))) = padAt n z (i + 1) := by
  apply List.ext_getElem
  · simp [padAt]
  · intro j h1 h2
    simp only [padAt, List.getElem_map, List.getElem_range, List.getElem_set]
    rw [padAt_len] at h2
    by_cases e : z + 8 - i = j
    · subst e
      rw [if_pos rfl, if_neg (by omega), if_pos (by omega), show z + 8 - (z + 8 - i) = i by omega]
    · rw [if_neg e]
      by_cases e0 : j = 0
      · rw [if_pos e0, if_pos e0]
      · rw [if_neg e0, if_neg e0]
        by_cases h : z + 9 - i ≤ j
        · rw [if_pos h, if_pos (by omega)]
        · rw [if_neg h, if_neg (by omega)]
theorem padAt_all (n : Nat) : padAt n (zeros n) 8 = pad n := by
  apply List.ext_getElem
  · rw [padAt_len, pad_len]
  · intro j h1 h2
    rw [padAt_len] at h1
    simp only [padAt, List.getElem_map, List.getElem_range, pad]
    rcases j with _ | j
    · simp
    · rw [if_neg (by omega), List.getElem_cons_succ, List.getElem_append]
      simp only [List.length_replicate]
      by_cases h : j < zeros n
      · rw [if_neg (by omega), dif_pos h, List.getElem_replicate]
      · rw [if_pos (by omega), dif_neg h]
        simp only [size8, List.getElem_map, List.getElem_range]
        congr 4
        omega
theorem byte_int (x : Nat) (i : Nat) : (x : Int) / 2 ^ (8 * i) % 256 = ((UInt8.ofNat (x / 2 ^ (8 * i))).toNat : Int) := by
  rw [UInt8.toNat_ofNat', Int.natCast_emod, Int.natCast_ediv, Int.natCast_pow]
  rfl
theorem pad_start {w w1 : World} {z : Nat} (h : w1.ownsRow w.heap.size 5 1 (.slice (some ⟨w.heap.size, 0, none⟩) (1 + z + 8) (1 + z + 8)) (1 + z + 8) (madeCells (Value.int .u8 0).cells ((1 + z + 8) * 1)).toList) (hg : w.grownBy w1 none) :
    Hid (OwnB w1 5 w.heap.size (some ⟨w.heap.size, 0, none⟩) (1 + z + 8) (List.replicate (1 + z + 8) 0)) ∧ Hid (Ext w w1) ∧ w1.cell? ⟨w.heap.size, 0, none⟩ = some (.int .u8 0) ∧ w1.frozen? ⟨w.heap.size, 0, none⟩ = false := by
  have hB : OwnB w1 5 w.heap.size (some ⟨w.heap.size, 0, none⟩) (1 + z + 8) (List.replicate (1 + z + 8) 0) := by
    unfold OwnB
    rw [made_bytes] at h
    simpa using h
  have h0 := hB.cellAt (j := 0) (by simp)
  rw [List.getElem_replicate] at h0
  exact ⟨hB, grown_ext hg, h0, hB.freeAt 0⟩
theorem pad_neg (n : Nat) (hn : n ≤ 281474976710656) : ∃ X : Nat, IntKind.u64.wrap (-((n : Int) + 1 + 8)) = (X : Int) ∧ (X : Int) % 64 = (zeros n : Nat) := by
  refine ⟨18446744073709551616 - (n + 9), ?_, ?_⟩
  · rw [IntKind.wrap_u64]; omega
  · unfold zeros; omega
set_option maxRecDepth 100000 in
set_option maxHeartbeats 1000000 in
theorem padding_c (n : Nat) (hn : n ≤ 281474976710656) (w : World) :
    Calls Tryz.prog 92 #[.int .i64 n] w fun e w' => ∃ A c, e = .returned (.slice A (pad n).length c) ∧ OwnB w' 5 w.heap.size A c (pad n) ∧ Ext w w' := by
  obtain ⟨i0, hi0, hz0, hz1, hz2⟩ := info_parts info_u8
  obtain ⟨X, hX, hm⟩ := pad_neg n hn
  have hz := zeros_lt n
  obtain ⟨z, hzz⟩ : ∃ z, z = zeros n := ⟨_, rfl⟩
  rw [← hzz] at hm hz
  have HZ := Lib.hid hzz
  clear hzz
  go_enter Tryz.func92, Tryz.ntmps92
  go_wp2_with (at_make; refine wpList_make_full _ rfl (.tmp 15) (.tmp 15) 31 rfl w.heap.size 5 i0 (.int .u8 0) 1 Tryz.underlying31 hi0 hz0 hz1 .u64 .u64 _ _ (1 + z + 8) rfl rfl (by omega) (by omega) (by rw [hz2]; omega) (by unfold maxLen; omega) (Nat.le_refl _) ?_; intro w1 ho1 hg1; obtain ⟨hB, hx1, c0, f0⟩ := pad_start ho1 hg1; clear ho1 hg1)
  clear hX hm c0 f0
  go_loopw [22] (fun i wr => ∃ k : Nat, k ≤ 8 ∧ i = .int .i64 k ∧ OwnB wr 5 w.heap.size (some ⟨w.heap.size, 0, none⟩) (1 + z + 8) (padAt n z k) ∧ Ext w wr) (fun i _ => 8 - (intOf i).toNat)
  case atStart =>
    refine ⟨0, by omega, rfl, ?_, Below.setCell hx1.out (Nat.le_refl _) _⟩
    rw [← padAt_zero]
    exact hB.out.set_ 0 128
  case round =>
    obtain ⟨k, hk, rfl, hP, hx⟩ := hrel
    by_cases hlt : k < 8
    · have hl : z + 8 - k < (padAt n z k).length := by rw [padAt_len]; omega
      obtain ⟨v, hv⟩ : ∃ v : Int, v = ((padAt n z k)[z + 8 - k]).toNat := ⟨_, rfl⟩
      have hc := hP.cellAt hl
      rw [← hv] at hc
      clear hv
      have hf := hP.freeAt (z + 8 - k)
      have e1 : (1 : Int) + (z : Int) + 8 - 1 - (k : Int) = ((z + 8 - k : Nat) : Int) := by omega
      have HP := Lib.hid hP
      have HE := Lib.hid hx
      clear hP hx hl
      go_wp2_with fail
      go_roundw
      case rel =>
        refine ⟨k + 1, by omega, by go_num, ?_, Below.setCell HE.out (Nat.le_refl _) _⟩
        have h := HP.out.set_ (z + 8 - k) (UInt8.ofNat (8 * n / 2 ^ (8 * k)))
        rw [padAt_step n z k hlt, ← byte_int (8 * n) k] at h
        rw [show (8 * (n : Int)) = ((8 * n : Nat) : Int) by omega]
        exact h
      case measure => simp [intOf]; omega
    · obtain rfl : k = 8 := by omega
      have HP := Lib.hid hP
      have HE := Lib.hid hx
      clear hP hx
      go_wp2_with fail
      go_ret
      have h := HP.out
      rw [HZ.out, padAt_all] at h
      exact ⟨_, _, by rw [pad_len, HZ.out]; rfl, h, HE.out⟩
end Go.Proofs.YtagegigffohcbaaGreatDoor

namespace Go.Proofs.YtagegigffohcbaaGreatDoor
open Go.RowKit

theorem acc_congr {bl bl' : Nat → Nat} (i : Nat) (hi : i < 16) (h : ∀ j, j < 64 → bl j = bl' j) (m : Nat) (hm : m ≤ 4) : acc bl i m = acc bl' i m := by
  induction m with
  | zero => rw [acc, acc]
  | succ m ih => rw [acc, acc, ih (by omega), h _ (by omega)]
theorem wl_congr {bl bl' : Nat → Nat} (h : ∀ j, j < 64 → bl j = bl' j) (k : Nat) : wl bl k = wl bl' k := by
  induction k with
  | zero =>
    rw [wl, wl]
    exact List.map_congr_left fun i hi => acc_congr i (List.mem_range.1 hi) h 4 (by omega)
  | succ k ih => rw [wl_succ, wl_succ, ih]
theorem wds_congr {bl bl' : Nat → Nat} (h : ∀ j, j < 64 → bl j = bl' j) : wds bl = wds bl' := by
  funext i
  unfold wds
  rw [wl_congr h]
theorem blk_congr (K : Nat → Nat) (s : St) {bl bl' : Nat → Nat} (h : ∀ j, j < 64 → bl j = bl' j) : blk K s bl = blk K s bl' := by
  unfold blk
  rw [wds_congr h]

theorem byt_drop (l : List UInt8) (k i : Nat) : byt (l.drop k) i = byt l (k + i) := by
  unfold byt
  rw [List.getD_eq_getElem?_getD, List.getD_eq_getElem?_getD, List.getElem?_drop]
theorem byt_left (l m : List UInt8) {i : Nat} (h : i < l.length) : byt (l ++ m) i = byt l i := by
  unfold byt
  rw [List.getD_eq_getElem?_getD, List.getD_eq_getElem?_getD, List.getElem?_append_left h]
theorem byt_right (l m : List UInt8) {i : Nat} (h : l.length ≤ i) : byt (l ++ m) i = byt m (i - l.length) := by
  unfold byt
  rw [List.getD_eq_getElem?_getD, List.getD_eq_getElem?_getD, List.getElem?_append_right h]
theorem byt_take (l : List UInt8) {k i : Nat} (h : i < k) : byt (l.take k) i = byt l i := by
  unfold byt
  rw [List.getD_eq_getElem?_getD, List.getD_eq_getElem?_getD, List.getElem?_take, if_pos h]
/-- blocks that are whole stay as they are -/
theorem run_more (K : Nat → Nat) (s : St) (q p : List UInt8) (m : Nat) (h : 64 * m ≤ q.length) : run K s (q ++ p) m = run K s q m := by
  induction m with
  | zero => rw [run, run]
  | succ m ih =>
    rw [run_succ, run_succ, ih (by omega)]
    refine blk_congr K _ fun j hj => ?_
    rw [byt_drop, byt_drop, byt_left _ _ (by omega)]

/-- what the variables of Sum hold when the bytes q have been added -/
def Part (q : List UInt8) (f : Nat → Nat) : Prop := (∀ i, f i < 256) ∧ ∀ i, i < q.length % 64 → f i = byt q (64 * (q.length / 64) + i)
/-- how many bytes fit -/
def fits (q rest : List UInt8) : Nat := min rest.length (64 - q.length % 64)
def fill (q rest : List UInt8) (f : Nat → Nat) (i : Nat) : Nat := if q.length % 64 ≤ i ∧ i < q.length % 64 + fits q rest then byt rest (i - q.length % 64) else f i
theorem fits_le (q rest : List UInt8) : fits q rest ≤ rest.length ∧ fits q rest ≤ 64 - q.length % 64 := by unfold fits; omega
theorem fits_pos (q : List UInt8) {rest : List UInt8} (h : 0 < rest.length) : 0 < fits q rest := by unfold fits; omega
theorem fill_lt {q : List UInt8} {f : Nat → Nat} (rest : List UInt8) (h : Part q f) (i : Nat) : fill q rest f i < 256 := by
  unfold fill
  split
  · exact byt_lt _ _
  · exact h.1 i
theorem fill_at {q rest : List UInt8} {f : Nat → Nat} (h : Part q f) {i : Nat} (hi : i < q.length % 64 + fits q rest) : fill q rest f i = byt (q ++ rest.take (fits q rest)) (64 * (q.length / 64) + i) := by
  have hq : 64 * (q.length / 64) + q.length % 64 = q.length := by omega
  unfold fill
  by_cases h1 : q.length % 64 ≤ i
  · rw [if_pos ⟨h1, hi⟩, byt_right _ _ (by omega), byt_take _ (by omega)]
    congr 1
    omega
  · rw [if_neg (by omega), h.2 i (by omega), byt_left _ _ (by omega)]
theorem len_fits (q rest : List UInt8) : (q ++ rest.take (fits q rest)).length = q.length + fits q rest := by
  have := fits_le q rest
  simp only [List.length_append, List.length_take]
  omega
/-- the block is not full yet -/
theorem part_open {q rest : List UInt8} {f : Nat → Nat} (h : Part q f) (hm : (q.length + fits q rest) % 64 ≠ 0) :
    Part (q ++ rest.take (fits q rest)) (fill q rest f) ∧ ∀ K s, run K s (q ++ rest.take (fits q rest)) ((q ++ rest.take (fits q rest)).length / 64) = run K s q (q.length / 64) := by
  have hf := fits_le q rest
  have hl := len_fits q rest
  have h1 : (q.length + fits q rest) / 64 = q.length / 64 := by omega
  have h2 : (q.length + fits q rest) % 64 = q.length % 64 + fits q rest := by omega
  refine ⟨⟨fill_lt rest h, fun i hi => ?_⟩, fun K s => ?_⟩
  · rw [hl, h2] at hi
    rw [fill_at h hi, hl, h1]
  · rw [hl, h1, run_more K s _ _ _ (by omega)]
/-- the block is full -/
theorem part_full {q rest : List UInt8} {f : Nat → Nat} (h : Part q f) (hr : 0 < rest.length) (hm : (q.length + fits q rest) % 64 = 0) :
    Part (q ++ rest.take (fits q rest)) (fill q rest f) ∧ ∀ K s, run K s (q ++ rest.take (fits q rest)) ((q ++ rest.take (fits q rest)).length / 64) = blk K (run K s q (q.length / 64)) (fill q rest f) := by
  have hf := fits_le q rest
  have hp := fits_pos q hr
  have hl := len_fits q rest
  have h1 : (q.length + fits q rest) / 64 = q.length / 64 + 1 := by omega
  have h2 : q.length % 64 + fits q rest = 64 := by omega
  refine ⟨⟨fill_lt rest h, fun i hi => ?_⟩, fun K s => ?_⟩
  · rw [hl, hm] at hi
    omega
  · rw [hl, h1, run_succ, run_more K s _ _ _ (by omega)]
    refine blk_congr K _ fun j hj => ?_
    rw [byt_drop, fill_at h (by omega)]
theorem part_nil : Part [] (fun _ => 0) := ⟨fun _ => Nat.succ_pos _, fun i hi => by simp at hi⟩

end Go.Proofs.YtagegigffohcbaaGreatDoor

namespace Go.Proofs.YtagegigffohcbaaGreatDoor
open Go.RowKit

/-! ## the blocks in X alone may have turned -/
structure Gr (X : Nat → Prop) (w w' : World) : Prop where
  os : w'.os = w.os
  tape : w'.tape = w.tape
  output : w'.output = w.output
  size : w.heap.size ≤ w'.heap.size
  block : ∀ i, i < w.heap.size → ¬ X i → w'.heap[i]? = w.heap[i]?
section
variable {X : Nat → Prop} {a b c w w' : World}
theorem Gr.refl (w : World) : Gr X w w := ⟨rfl, rfl, rfl, Nat.le_refl _, fun _ _ _ => rfl⟩
theorem Gr.tr (h : Gr X a b) (k : Gr X b c) : Gr X a c :=
  ⟨k.os.trans h.os, k.tape.trans h.tape, k.output.trans h.output, Nat.le_trans h.size k.size, fun i hi hx => (k.block i (Nat.lt_of_lt_of_le hi h.size) hx).trans (h.block i hi hx)⟩
theorem Gr.ofExt (h : Ext w w') : Gr X w w' := ⟨h.os, h.tape, h.output, h.size, fun i hi _ => h.block i hi⟩
theorem Gr.ofGrown {g : Nat} (h : w.grownBy w' (some g)) (hg : X g) : Gr X w w' :=
  ⟨h.os, h.tape, h.output, h.size, fun i hi hx => h.block i hi (by rintro e; injection e with e; subst e; exact hx hg)⟩
theorem Gr.toExt (h : Ext a b) (k : Gr X b c) (hX : ∀ g, X g → a.heap.size ≤ g) : Ext a c :=
  ⟨k.os.trans h.os, k.tape.trans h.tape, k.output.trans h.output, Nat.le_trans h.size k.size,
    fun i hi => (k.block i (Nat.lt_of_lt_of_le hi h.size) (fun hx => by have := hX i hx; omega)).trans (h.block i hi)⟩
theorem Gr.get (h : Gr X w w') {g : Nat} {o : Obj} (hg : w.heap[g]? = some o) (hx : ¬ X g) : w'.heap[g]? = some o := (h.block g (lt_of_some hg) hx).trans hg
theorem RB.gr {S : Nat → TypeId → Prop} {A : Option Addr} {l : List UInt8} (h : RB w S A l) (hb : Gr X w w') (hS : ∀ g t, S g t → ¬ X g) : RB w' S A l :=
  h.keep fun _ _ hh ⟨_, _, _, _, hs⟩ => hb.get hh (hS _ _ hs)
theorem Tab.gr (h : Tab w) (hb : Gr X w w') (hX : ¬ X 0) : Tab w' := by
  obtain ⟨cs, t, fr, hh, hc⟩ := h
  exact ⟨cs, t, fr, hb.get hh hX, hc⟩
end

/-- bytes are copied into an array of the call's own -/
theorem wpList_copy_arr {P : Program} {w : World} {ops : Array Oper} {rest : List Oper} {o : Oper} {a : Act} {Q : Exit → Act → World → Prop} (hgd : o.guard = none) (d s : Operand) (dT sT : TypeId)
    (ho : o.op = .call { callee := .builtin .copy, args := #[d, s], argTypes := #[dT, sT] }) (elem : TypeId) (hu : P.underlying dT = some (.slice elem)) (hsz : (P.info? elem).map (·.size) = some 1)
    (g off dLen dCap : Nat) (hd : a.eval d = .slice (some ⟨g, off, none⟩) dLen dCap) (A : Option Addr) (c : Nat) (l : List UInt8) (hs : a.eval s = .slice A l.length c)
    (t : TypeId) (n : Nat) (f : Nat → Nat) (hg : Arr w g t .u8 n f) (S : Nat → TypeId → Prop) (hr : RB w S A l) (hl : 0 < l.length) (cnt : Nat) (hcnt : cnt = min l.length dLen) (hfit : off + cnt ≤ n)
    (h : ∀ w', Arr w' g t .u8 n (fun i => if off ≤ i ∧ i < off + cnt then byt l (i - off) else f i) → w.grownBy w' (some g) → wpList P ops Q rest (a.put o.dst (.int .i64 cnt)) w') :
    wpList P ops Q (o :: rest) a w := by
  obtain ⟨g', off', cs', t', fr', rfl, hh', _, hc'⟩ := hr hl
  have hlen : ((l.take cnt).map u8).length = cnt := by rw [List.length_map, List.length_take]; omega
  have hcl : cnt ≤ l.length := by omega
  refine wpList_copy_own hgd d s dT sT ho elem hu hsz g off dLen dCap ⟨g', off', none⟩ l.length c hd hs (tabV .u8 n f) t hg ((l.take cnt).map u8) (by rw [hlen, hcnt]) (fun j v hj => ?_) (by rw [hlen, tabV_size]; exact hfit) (u8s_one _) ?_
  · rw [List.getElem?_map] at hj
    obtain ⟨b, hb, rfl⟩ := Option.map_eq_some_iff.1 hj
    rw [List.getElem?_take] at hb
    split at hb
    · rw [(addr_add _ _).2 rfl, cells_of hh']
      exact hc' j b hb
    · cases hb
  · have e : ((tabV .u8 n f).toList.take off ++ ((l.take cnt).map u8 ++ (tabV .u8 n f).toList.drop (off + ((l.take cnt).map u8).length))).toArray = tabV .u8 n (fun i => if off ≤ i ∧ i < off + cnt then byt l (i - off) else f i) := by
      have hts : (tabV .u8 n f).toList.length = n := by rw [Array.length_toList, tabV_size]
      apply tabV_ext
      · simp only [List.size_toArray, List.length_append, List.length_take, List.length_drop, hts, hlen]
        omega
      · intro i hi
        rw [List.getElem?_toArray, hlen]
        by_cases h1 : i < off
        · rw [List.getElem?_append_left (by rw [List.length_take, hts]; omega), List.getElem?_take, if_pos h1, Array.getElem?_toList, tabV_get hi, if_neg (by omega)]
        · rw [List.getElem?_append_right (by rw [List.length_take, hts]; omega), List.length_take, hts, Nat.min_eq_left (by omega)]
          by_cases h2 : i < off + cnt
          · have hil : i - off < l.length := by omega
            rw [List.getElem?_append_left (by rw [hlen]; omega), List.getElem?_map, List.getElem?_take, if_pos (by omega), if_pos ⟨by omega, h2⟩, List.getElem?_eq_getElem hil]
            simp only [Option.map_some, u8, byt]
            rw [List.getD_eq_getElem?_getD, List.getElem?_eq_getElem hil]
            rfl
          · rw [List.getElem?_append_right (by rw [hlen]; omega), hlen, List.getElem?_drop, show off + cnt + (i - off - cnt) = i by omega, Array.getElem?_toList, tabV_get hi, if_neg (by omega)]
    rw [e, hlen]
    exact h _ (setRow_heap w g _ _ t _ hg) (grown_setRow g _)

/-! ## the variables of Sum -/
def Sh (w : World) (gb gn gs : Nat) (q : List UInt8) : Prop :=
  (∃ f, Arr w gb 98 .u8 64 f ∧ Part q f) ∧ w.heap[gn]? = some (.cells #[.int .i64 q.length] 3 (0, 0)) ∧ Arr w gs 104 .u32 8 (run kc st0 q (q.length / 64)).get
def X3 (gb gn gs : Nat) (g : Nat) : Prop := g = gb ∨ g = gn ∨ g = gs
theorem drop_drop_len (b : List UInt8) (k c : Nat) : (b.drop k).drop c = b.drop (k + c) := by rw [List.drop_drop]
theorem take_more (b : List UInt8) (k c : Nat) : b.take k ++ (b.drop k).take c = b.take (k + c) := by rw [List.take_add]

def lenOf : Value → Nat
  | .slice _ n _ => n
  | _ => 0

set_option maxRecDepth 100000 in
set_option maxHeartbeats 2000000 in
theorem add_c (gb gn gs : Nat) (hbn : gb ≠ gn) (hbs : gb ≠ gs) (hns : gn ≠ gs) (h0 : ¬ X3 gb gn gs 0) (q : List UInt8) (A : Option Addr) (c : Nat) (b : List UInt8) (S : Nat → TypeId → Prop) (hS : ∀ g t, S g t → ¬ X3 gb gn gs g) (w : World) (ht : Tab w)
    (hh : Sh w gb gn gs q) (hr : RB w S A b) (hc : b.length ≤ c) (hcm : c ≤ 9223372036854775807) (hlen : q.length + b.length ≤ 281474976710656) :
    Calls Tryz.prog 90 #[.slice A b.length c, .pointer (some ⟨gb, 0, none⟩), .pointer (some ⟨gn, 0, none⟩), .pointer (some ⟨gs, 0, none⟩)] w fun e w' => e = .returned (.tuple #[]) ∧ Sh w' gb gn gs (q ++ b) ∧ Gr (X3 gb gn gs) w w' := by
  have HH := Lib.hid hh
  have HR := Lib.hid hr
  have HT := Lib.hid ht
  have HS := Lib.hid hS
  have HC := Lib.hid hc
  have HL := Lib.hid hlen
  clear hh hr ht hS hlen hc
  go_enter Tryz.func90, Tryz.ntmps90
  go_wp2_with fail
  go_loopw [0] (fun v wr => ∃ (k : Nat) (A' : Option Addr) (c' : Nat), k ≤ b.length ∧ v = .slice A' (b.drop k).length c' ∧ RB wr S A' (b.drop k) ∧ (b.drop k).length ≤ c' ∧ c' ≤ 9223372036854775807 ∧ Sh wr gb gn gs (q ++ b.take k) ∧ Gr (X3 gb gn gs) w wr) (fun v _ => lenOf v)
  case atStart => exact ⟨0, A, c, by omega, rfl, HR.out, HC.out, hcm, by rw [List.take_zero, List.append_nil]; exact HH.out, Gr.refl _⟩
  case round =>
    obtain ⟨k, A', c', hk, rfl, hr, hc', hcm', hsh, hgr⟩ := hrel
    obtain ⟨p, hp⟩ : ∃ p, p = b.drop k := ⟨_, rfl⟩
    obtain ⟨m, hm⟩ : ∃ m, m = q ++ b.take k := ⟨_, rfl⟩
    have hpl : p.length = b.length - k := by rw [hp, List.length_drop]
    have hml : m.length = q.length + k := by rw [hm, List.length_append, List.length_take]; omega
    rw [← hp] at hr hc' ⊢
    rw [← hm] at hsh
    have HP := Lib.hid hp
    have HM := Lib.hid hm
    have hbd : m.length + p.length ≤ 281474976710656 := by have := HL.out; omega
    have HPL := Lib.hid hpl
    have HML := Lib.hid hml
    clear hp hm hpl hml
    by_cases hlt : 0 < p.length
    · obtain ⟨⟨f, hA, hPf⟩, hN, hSt⟩ := hsh
      have cn : wr.cell? ⟨gn, 0, none⟩ = some (.int .i64 m.length) := cells_of hN 0
      have fn : wr.frozen? ⟨gn, 0, none⟩ = false := free_of hN 0
      have HA := Lib.hid hA
      have HPf := Lib.hid hPf
      have HN := Lib.hid hN
      have HSt := Lib.hid hSt
      have HR1 := Lib.hid hr
      have HG := Lib.hid hgr
      clear hA hPf hN hSt hr hgr
      have hfl := fits_le m p
      have hfp := fits_pos m hlt
      obtain ⟨cnt, hcn⟩ : ∃ cnt, cnt = fits m p := ⟨_, rfl⟩
      rw [← hcn] at hfl hfp
      obtain ⟨hf1, hf2⟩ := hfl
      have HCN := Lib.hid hcn
      have hmod : m.length % 64 < 64 := Nat.mod_lt _ (by decide)
      have hsl := fun W => run_slice_arr (P := Tryz.prog) (t := 98) Tryz.underlying98 size_u8 gb (m.length % 64) hmod ((m.length : Int) % 64) (by omega) W
      have hcq : cnt = min p.length (64 - m.length % 64) := hcn
      have HCQ := Lib.hid hcq
      clear hcn hcq
      go_wp2_with (refine wpList_copy_arr rfl (.tmp 11) (.tmp 12) 31 31 rfl 5 Tryz.underlying31 size_u8 gb (m.length % 64) (64 - m.length % 64) (64 - m.length % 64) rfl A' c' p rfl 98 64 f HA.out S HR1.out hlt cnt HCQ.out (by omega) ?_; intro w2 hA2 hG2)
      have hA3 : Arr w2 gb 98 .u8 64 (fill m p f) := hA2.congr (fun i _ => by rw [fill, ← HCN.out])
      have hN2 := grown_get hG2 HN.out (by simpa using hbn)
      have cn2 : w2.cell? ⟨gn, 0, none⟩ = some (.int .i64 m.length) := cells_of hN2 0
      have fn2 : w2.frozen? ⟨gn, 0, none⟩ = false := free_of hN2 0
      have hSt2 : Arr w2 gs 104 .u32 8 (run kc st0 m (m.length / 64)).get := grown_get hG2 HSt.out (by simpa using hbs)
      have hg2 : Gr (X3 gb gn gs) wr w2 := Gr.ofGrown hG2 (.inl rfl)
      have hr2 := HR1.out.gr hg2 HS.out
      have HA3 := Lib.hid hA3
      have HN2 := Lib.hid hN2
      have HSt2 := Lib.hid hSt2
      have HR2 := Lib.hid hr2
      have HG2 := Lib.hid (HG.out.tr hg2)
      have n1 : (cnt : Int) ≤ (p.length : Int) := by omega
      have n2 : (p.length : Int) ≤ (c' : Int) := by omega
      have n3 : (cnt : Int) ≤ (c' : Int) := by omega
      clear hA2 hG2 hA3 hN2 hSt2 hg2 hr2 hsl cn fn HA HN HSt HR1 HG
      go_region
      obtain ⟨A3, hA3⟩ : ∃ A3, A3 = (if c' = cnt then A' else Option.map (fun x => x.add cnt) A') := ⟨_, rfl⟩
      have hd := HR2.out.drop (k := cnt) hc'
      have hd1 : RB w2 S A3 (p.drop cnt) := by rw [hA3]; exact hd
      obtain ⟨W, hW⟩ : ∃ W, W = (w2.setCell ⟨gn, 0, none⟩ (.int .i64 ((m.length : Int) + (cnt : Int)))).drew := ⟨_, rfl⟩
      rw [← hA3, ← hW]
      have hg3 : w2.grownBy W (some gn) := by rw [hW]; exact grown_tr (grown_set _ rfl _) ((Ext.drew _).grown _)
      have hN3 : W.heap[gn]? = some (.cells #[.int .i64 ((m.length + cnt : Nat) : Int)] 3 (0, 0)) := by
        rw [hW]
        have h := set_of HN2.out 0 (.int .i64 ((m.length : Int) + (cnt : Int)))
        rw [Int.natCast_add]
        exact h
      have hA4 : Arr W gb 98 .u8 64 (fill m p f) := grown_get hg3 HA3.out (by simpa using (Ne.symm hbn))
      have hS4 : Arr W gs 104 .u32 8 (run kc st0 m (m.length / 64)).get := grown_get hg3 HSt2.out (by simpa using hns)
      have hG4 : Gr (X3 gb gn gs) w W := HG2.out.tr (Gr.ofGrown hg3 (.inr (.inl rfl)))
      have hR4 := hd1.gr (Gr.ofGrown (X := X3 gb gn gs) hg3 (.inr (.inl rfl))) HS.out
      have c4 : W.cell? ⟨gn, 0, none⟩ = some (.int .i64 ((m.length : Int) + (cnt : Int))) := by rw [cells_of hN3 0, Int.natCast_add]; rfl
      have HN4 := Lib.hid hN3
      have HA4 := Lib.hid hA4
      have HS4 := Lib.hid hS4
      have HG4 := Lib.hid hG4
      have HR4 := Lib.hid hR4
      clear hA3 hd hd1 hW hg3 hN3 hA4 hS4 hG4 hR4 cn2 fn2 HR2 HA3 HN2 HSt2 HG2
      have hpd : (p.drop cnt).length = p.length - cnt := List.length_drop
      have HPD := Lib.hid hpd
      clear hpd
      by_cases h64 : (m.length + cnt) % 64 = 0
      · have t1 := beq_t (a := ((m.length : Int) + (cnt : Int)) % 64) (b := 0) (by omega)
        obtain ⟨hPn, hrun⟩ := part_full HPf.out hlt (by rw [← HCN.out]; exact h64)
        have HPN := Lib.hid hPn
        have HRUN := Lib.hid (hrun kc st0)
        have hok : (run kc st0 m (m.length / 64)).ok := run_ok _ st0_ok _ _
        have hft := fill_lt p HPf.out
        obtain ⟨s, hs⟩ : ∃ s, s = run kc st0 m (m.length / 64) := ⟨_, rfl⟩
        have HSE := Lib.hid hs
        have hT4 : Tab W := HT.out.gr HG4.out h0
        have hS4 := HS4.out
        rw [← hs] at hok hS4
        have hcall := fun W' (hW' : Tab W') => sblock_c s hok (fill m p f) hft W' hW'
        have HCALL := Lib.hid hcall
        have HT4 := Lib.hid hT4
        have HS5 := Lib.hid hS4
        clear hs hT4 hok hft hcall hPn hrun hS4 HS4 HPf h64
        go_wp2_with (first | (refine wpList_load_arr rfl 104 (.tmp 3) rfl gs rfl 104 .u32 8 s.get _ HS5.out Tryz.underlying104 size_st ?_) | (refine wpList_load_arr rfl 98 (.tmp 1) rfl gb rfl 98 .u8 64 (fill m p f) _ HA4.out Tryz.underlying98 size_blk ?_))
        refine (HCALL.out _ HT4.out).mono ?_
        rintro e W5 ⟨rfl, hx5⟩
        have HX5 := Lib.hid hx5
        have hs5 := HS5.out.ext hx5
        clear hx5
        go_wp2_with (refine wpList_store_arr' rfl rfl 104 (.tmp 3) (.tmp 25) rfl gs .u32 8 (blk kc s (fill m p f)).get rfl rfl 104 _ hs5 size_st tabV_size ?_; intro W6 hA6 hG6)
        have ep : p.drop cnt = b.drop (k + cnt) := by rw [HP.out, drop_drop_len]
        have em : m ++ p.take cnt = q ++ b.take (k + cnt) := by rw [HM.out, HP.out, List.append_assoc, take_more]
        have e1 : m.length + cnt = (q ++ b.take (k + cnt)).length := by rw [← em, List.length_append, List.length_take]; omega
        have g6 : Gr (X3 gb gn gs) W W6 := (Gr.ofExt HX5.out).tr (Gr.ofGrown hG6 (.inr (.inr rfl)))
        have hsh : Sh W6 gb gn gs (q ++ b.take (k + cnt)) := by
          refine ⟨⟨fill m p f, grown_get hG6 (HX5.out.get HA4.out) (by simpa using (Ne.symm hbs)), ?_⟩, ?_, ?_⟩
          · rw [← em, HCN.out]; exact HPN.out
          · rw [← e1]; exact grown_get hG6 (HX5.out.get HN4.out) (by simpa using (Ne.symm hns))
          · rw [← em, HCN.out, HRUN.out, ← HSE.out]; exact hA6
        have hrb := HR4.out.gr g6 HS.out
        rw [ep] at hrb
        have hle : (b.drop (k + cnt)).length = p.length - cnt := by rw [← ep, HPD.out]
        go_roundw
        case rel => exact ⟨k + cnt, A3, c' - cnt, by have := HPL.out; omega, by rw [hle], hrb, by omega, by omega, hsh, HG4.out.tr g6⟩
        case measure => simp [lenOf]; omega
      · have t1 := beq_f (a := ((m.length : Int) + (cnt : Int)) % 64) (b := 0) (by omega)
        obtain ⟨hPn, hrun⟩ := part_open HPf.out (by rw [← HCN.out]; exact h64)
        have HPN := Lib.hid hPn
        have HRUN := Lib.hid (hrun kc st0)
        clear hPn hrun h64 HPf
        go_wp2_with fail
        have ep : p.drop cnt = b.drop (k + cnt) := by rw [HP.out, drop_drop_len]
        have em : m ++ p.take cnt = q ++ b.take (k + cnt) := by rw [HM.out, HP.out, List.append_assoc, take_more]
        have e1 : m.length + cnt = (q ++ b.take (k + cnt)).length := by rw [← em, List.length_append, List.length_take]; omega
        have hsh : Sh W gb gn gs (q ++ b.take (k + cnt)) := by
          refine ⟨⟨fill m p f, HA4.out, ?_⟩, ?_, ?_⟩
          · rw [← em, HCN.out]; exact HPN.out
          · rw [← e1]; exact HN4.out
          · rw [← em, HCN.out, HRUN.out]; exact HS4.out
        have hrb := HR4.out
        rw [ep] at hrb
        have hle : (b.drop (k + cnt)).length = p.length - cnt := by rw [← ep, HPD.out]
        go_roundw
        case rel => exact ⟨k + cnt, A3, c' - cnt, by have := HPL.out; omega, by rw [hle], hrb, by omega, by omega, hsh, HG4.out⟩
        case measure => simp [lenOf]; omega
    · have hz : p.length = 0 := by omega
      have hp0 : p = [] := List.eq_nil_of_length_eq_zero hz
      have ek : b.length ≤ k := by have := HPL.out; omega
      have em : m = q ++ b := by rw [HM.out, List.take_of_length_le ek]
      rw [em] at hsh
      have HSH := Lib.hid hsh
      have HG := Lib.hid hgr
      clear hz hp0 ek em hsh hgr hr
      go_wp2_with fail
      go_end0
      exact ⟨rfl, HSH.out, HG.out⟩
end Go.Proofs.YtagegigffohcbaaGreatDoor

namespace Go.Proofs.YtagegigffohcbaaGreatDoor
open Go.RowKit

theorem sum_start {w1 W : World} {cs : Array Value} {t : TypeId} (hA : Arr W w1.heap.size 104 .u32 8 st0.get) (hG : ((w1.alloc (.cells cs t)).alloc (.cells #[.int .i64 0] 3)).grownBy W (some w1.heap.size)) :
    Hid (Arr W w1.heap.size 104 .u32 8 st0.get ∧ W.heap[w1.heap.size + 1]? = some (.cells #[.int .i64 0] 3 (0, 0)) ∧ Ext w1 W) ∧ W.cell? ⟨w1.heap.size + 1, 0, none⟩ = some (.int .i64 0) ∧ W.frozen? ⟨w1.heap.size + 1, 0, none⟩ = false := by
  have h1 : W.heap[w1.heap.size + 1]? = some (.cells #[.int .i64 0] 3 (0, 0)) := grown_get hG (two_new _ _ _).2 (by simp)
  have hx : Ext w1 W := grown_new ((Ext.alloc _ _).tr (Ext.alloc _ _)) hG (fun g hg => by simp at hg; omega)
  exact ⟨⟨hA, h1, hx⟩, cells_of h1 0, free_of h1 0⟩
theorem sum_begin {w1 W : World} (h : Arr W w1.heap.size 104 .u32 8 st0.get ∧ W.heap[w1.heap.size + 1]? = some (.cells #[.int .i64 0] 3 (0, 0)) ∧ Ext w1 W) :
    Sh ((W.setCell ⟨w1.heap.size + 1, 0, none⟩ (.int .i64 0)).alloc (.cells (tabV .u8 64 (fun _ => 0)) 98)) W.heap.size (w1.heap.size + 1) w1.heap.size [] ∧
      Ext w1 ((W.setCell ⟨w1.heap.size + 1, 0, none⟩ (.int .i64 0)).alloc (.cells (tabV .u8 64 (fun _ => 0)) 98)) ∧ w1.heap.size + 1 < W.heap.size := by
  obtain ⟨hA, hN, hx⟩ := h
  have hsz : (W.setCell ⟨w1.heap.size + 1, 0, none⟩ (.int .i64 0)).heap.size = W.heap.size := by simp [World.setCell]
  have hlt := lt_of_some hN
  refine ⟨⟨⟨fun _ => 0, ?_, part_nil⟩, ?_, ?_⟩, ?_, hlt⟩
  · have := new_of (W.setCell ⟨w1.heap.size + 1, 0, none⟩ (.int .i64 0)) (.cells (tabV .u8 64 (fun _ => 0)) 98)
    rw [hsz] at this
    exact this
  · exact (Ext.alloc _ _).get (set_of hN 0 (.int .i64 0))
  · rw [show ([] : List UInt8).length / 64 = 0 from rfl, run]
    exact (hA.other (by omega) _ _).ext (Ext.alloc _ _)
  · exact (ext_setCell hx (by simp) _).tr (Ext.alloc _ _)
theorem Sh.lt {w : World} {gb gn gs : Nat} {q : List UInt8} (h : Sh w gb gn gs q) : gb < w.heap.size ∧ gn < w.heap.size ∧ gs < w.heap.size := by
  obtain ⟨⟨f, h1, _⟩, h2, h3⟩ := h
  exact ⟨h1.lt, lt_of_some h2, h3.lt⟩
theorem Sh.ext {w w' : World} {gb gn gs : Nat} {q : List UInt8} (h : Sh w gb gn gs q) (hx : Ext w w') : Sh w' gb gn gs q := by
  obtain ⟨⟨f, h1, h2⟩, h3, h4⟩ := h
  exact ⟨⟨f, h1.ext hx, h2⟩, hx.get h3, h4.ext hx⟩
set_option maxRecDepth 100000 in
set_option maxHeartbeats 2000000 in
theorem sum_c (A : Option Addr) (c : Nat) (ls : List (List UInt8)) (S T : Nat → TypeId → Prop) (w : World) (ht : Tab w) (h : RBC w S T A ls) (hl : (fla ls).length ≤ 140737488355328) (hn : ls.length ≤ 9223372036854775807) :
    Calls Tryz.prog 84 #[.slice A ls.length c] w fun e w' => e = .returned (.agg (tabV .u8 32 (sum kc (fla ls)))) ∧ Ext w w' := by
  have HT := Lib.hid ht
  have HR := Lib.hid h.inside
  have HL := Lib.hid hl
  clear ht h hl
  have hmf : ∀ (fn : Fn) (first cap : Array Value) (w : World), (Instr.makeFunc fn first cap).run Tryz.prog w = .ok (.func fn first cap) w := fun _ _ _ _ => rfl
  go_enter Tryz.func84, Tryz.ntmps84
  go_wp2_with fail
  have HB := Lib.hid (new_of w (.cells (tabV .u8 32 (fun _ => 0)) 53))
  refine (start_c _).mono ?_
  rintro e w1 ⟨rfl, hx1⟩
  have hx : Ext w w1 := (Ext.alloc _ _).tr hx1
  have hb : Arr w1 w.heap.size 53 .u8 32 (fun _ => 0) := hx1.get HB.out
  have HX := Lib.hid hx
  have HB1 := Lib.hid hb
  clear hx1 hx hb HB
  go_wp2_with (refine wpList_store_arr rfl 104 (.tmp 3) (.tmp 9) rfl w1.heap.size .u32 8 st0.get rfl rfl 104 _ (two_new _ _ _).1 size_st rfl ?_; intro W hA hG; obtain ⟨HW, cw, fw⟩ := sum_start hA hG; clear hA hG)
  clear cw fw
  obtain ⟨gb, hgb⟩ : ∃ gb, gb = W.heap.size := ⟨_, rfl⟩
  obtain ⟨hsh0, hx0, hlt0⟩ := sum_begin HW.out
  rw [← hgb] at hsh0 hlt0 ⊢
  have HGB := Lib.hid hgb
  have HX0 := Lib.hid (HX.out.tr hx0)
  have HB0 := Lib.hid (HB1.out.ext hx0)
  have HSH0 := Lib.hid hsh0
  have h00 : 0 < w.heap.size := by obtain ⟨_, _, _, hh, _⟩ := HT.out; exact lt_of_some hh
  have hle1 := HX.out.size
  have hlt1 : w.heap.size < w1.heap.size := HB1.out.lt
  clear hgb hx0 hsh0
  go_loopw [13] (fun i wr => ∃ j : Nat, j ≤ ls.length ∧ i = .int .i64 j ∧ Sh wr gb (w1.heap.size + 1) w1.heap.size (flt ls j) ∧ Arr wr w.heap.size 53 .u8 32 (fun _ => 0) ∧ Ext w wr) (fun i _ => ls.length - (intOf i).toNat)
  case atStart =>
    refine ⟨0, by omega, rfl, ?_, ?_, ?_⟩
    · rw [flt_zero]; exact HSH0.out
    · exact HB0.out
    · exact HX0.out
  case round =>
    obtain ⟨j, hj, rfl, hsh, hB, hx⟩ := hrel
    by_cases hlt : j < ls.length
    · obtain ⟨g, off, B, d, rfl, hc, hr, hd1, hd2⟩ := (HR.out.ext hx).cell hlt
      have hm := flt_more ls j hlt
      have hlb : (flt ls j).length + (ls[j]).length ≤ 281474976710656 := by have := HL.out; omega
      have hst := flt_step ls j hlt
      obtain ⟨b, hb⟩ : ∃ b, b = ls[j] := ⟨_, rfl⟩
      rw [← hb] at hc hr hd1 hlb hst
      have hcall := add_c gb (w1.heap.size + 1) w1.heap.size (by omega) (by omega) (by omega) (by unfold X3; omega) (flt ls j) B d b (fun g _ => g < w.heap.size) (fun g _ hg => by unfold X3; omega) wr (HT.out.ext hx) hsh hr hd1 hd2 hlb
      have HCALL := Lib.hid hcall
      have HST := Lib.hid hst
      have HBW := Lib.hid hB
      have HXW := Lib.hid hx
      clear hcall hst hB hx hsh hr hm hb
      go_wp2_with fail
      refine HCALL.out.mono ?_
      rintro e W2 ⟨rfl, hsh2, hg2⟩
      rw [HST.out] at hsh2
      have HSH2 := Lib.hid hsh2
      have hb2 : Arr W2 w.heap.size 53 .u8 32 (fun _ => 0) := hg2.get HBW.out (by unfold X3; omega)
      have hx2 : Ext w W2 := Gr.toExt HXW.out hg2 (fun g hg => by unfold X3 at hg; omega)
      have HB2 := Lib.hid hb2
      have HX2 := Lib.hid hx2
      clear hsh2 hg2 hb2 hx2
      go_wp2_with fail
      go_roundw
      case rel => exact ⟨j + 1, by omega, by go_num, HSH2.out, HB2.out, HX2.out⟩
      case measure => simp [intOf]; omega
    · rw [flt_all ls (by omega)] at hsh
      have hN := hsh.2.1
      have cn : wr.cell? ⟨w1.heap.size + 1, 0, none⟩ = some (.int .i64 (fla ls).length) := cells_of hN 0
      have HSH := Lib.hid hsh
      have HBW := Lib.hid hB
      have HXW := Lib.hid hx
      clear hsh hN hB hx
      go_wp2_with fail
      refine (padding_c (fla ls).length (by have := HL.out; omega) _).mono ?_
      rintro e W2 ⟨A2, c2, rfl, ho2, hx2⟩
      have hsh2 := HSH.out.ext hx2
      obtain ⟨l1, l2, l3⟩ := HSH.out.lt
      have hpl : (pad (fla ls).length).length ≤ 72 := by rw [pad_len]; have := zeros_lt (fla ls).length; omega
      have hcall := add_c gb (w1.heap.size + 1) w1.heap.size (by omega) (by omega) (by omega) (by unfold X3; omega) (fla ls) A2 c2 (pad (fla ls).length) _ (fun g _ hg => by unfold X3; have := hg.1; omega) W2 (HT.out.ext (HXW.out.tr hx2)) hsh2 ho2.rb ho2.le.1 (by have := ho2.le.2; unfold maxLen at this; omega) (by have := HL.out; omega)
      have HCALL := Lib.hid hcall
      have HB2 := Lib.hid (HBW.out.ext hx2)
      have HX2 := Lib.hid (HXW.out.tr hx2)
      clear hcall hsh2 hx2 ho2 hpl
      go_wp2_with fail
      refine HCALL.out.mono ?_
      rintro e W3 ⟨rfl, hsh3, hg3⟩
      have hb3 : Arr W3 w.heap.size 53 .u8 32 (fun _ => 0) := hg3.get HB2.out (by unfold X3; omega)
      have hx3 : Ext w W3 := Gr.toExt HX2.out hg3 (fun g hg => by unfold X3 at hg; omega)
      have HS3 := Lib.hid hsh3.2.2
      have HB3 := Lib.hid hb3
      have HX3 := Lib.hid hx3
      clear hsh3 hg3 hb3 hx3
      obtain ⟨s, hs⟩ : ∃ s, s = run kc st0 (fla ls ++ pad (fla ls).length) ((fla ls ++ pad (fla ls).length).length / 64) := ⟨_, rfl⟩
      have hS4 := HS3.out
      rw [← hs] at hS4
      have HSS := Lib.hid hs
      have HS4 := Lib.hid hS4
      clear hs hS4 HS3
      go_wp2_with (refine wpList_load_arr rfl 104 (.tmp 3) rfl w1.heap.size rfl 104 .u32 8 s.get _ HS4.out Tryz.underlying104 size_st ?_)
      refine (digest_c s _).mono ?_
      rintro e W4 ⟨rfl, hx4⟩
      have HB4 := Lib.hid (HB3.out.ext hx4)
      have HX4 := Lib.hid (HX3.out.tr hx4)
      clear hx4
      go_wp2_with (refine wpList_store_arr' rfl rfl 53 (.tmp 2) (.tmp 26) rfl w.heap.size .u8 32 (dig s) rfl rfl 53 _ HB4.out size_dig tabV_size ?_; intro W5 hA5 hG5)
      refine bodyPost_ret (v := .agg (tabV .u8 32 (dig s))) ?_ rfl ⟨by unfold sum; rw [← HSS.out], grown_new HX4.out hG5 (fun g hg => by simp at hg; omega)⟩
      exact results_cell_row rfl _ _ _ _ _ _ _ rfl hA5 Tryz.underlying53 rfl (by rw [tabV_size]; exact size_dig)
end Go.Proofs.YtagegigffohcbaaGreatDoor
