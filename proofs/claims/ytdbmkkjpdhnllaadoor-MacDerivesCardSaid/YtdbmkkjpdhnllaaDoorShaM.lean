/-
  SHA-256 in plain numbers: the words of a block, the rounds, the padding, the digest.
-/
import Derived.Test.YtdbmkkjpdhnllaaDoorKit
import Derived.Laws.BitsAllLaws
namespace Go.Proofs.YtdbmkkjpdhnllaaDoor
open Go.RowKit

/-- a sum of two words -/
def ad (a b : Nat) : Nat := (a + b) % 4294967296
theorem ad_lt (a b : Nat) : ad a b < 4294967296 := Nat.mod_lt _ (by decide)
theorem ad_comm (a b : Nat) : ad a b = ad b a := by unfold ad; rw [Nat.add_comm]
/-- a word rotated to the right -/
def rr (w n : Nat) : Nat := (w * 2 ^ (32 - n) % 4294967296) ||| w / 2 ^ n
theorem rr_lt {w : Nat} (h : w < 4294967296) (n : Nat) : rr w n < 4294967296 :=
  Nat.or_lt_two_pow (n := 32) (Nat.mod_lt _ (by decide)) (Nat.lt_of_le_of_lt (Nat.div_le_self _ _) h)
theorem xor_lt {a b : Nat} (ha : a < 4294967296) (hb : b < 4294967296) : a ^^^ b < 4294967296 := Nat.xor_lt_two_pow (n := 32) ha hb
theorem and_lt {a b : Nat} (ha : a < 4294967296) : a &&& b < 4294967296 := Nat.lt_of_le_of_lt Nat.and_le_left ha
def nt (a : Nat) : Nat := 4294967295 - a
theorem nt_lt (a : Nat) : nt a < 4294967296 := by unfold nt; omega
def sg0 (x : Nat) : Nat := (rr x 7 ^^^ rr x 18) ^^^ x / 8
def sg1 (x : Nat) : Nat := (rr x 17 ^^^ rr x 19) ^^^ x / 1024
def bs0 (a : Nat) : Nat := (rr a 2 ^^^ rr a 13) ^^^ rr a 22
def bs1 (e : Nat) : Nat := (rr e 6 ^^^ rr e 11) ^^^ rr e 25
def chs (e f g : Nat) : Nat := (e &&& f) ^^^ (nt e &&& g)
def maj (a b c : Nat) : Nat := ((a &&& b) ^^^ (a &&& c)) ^^^ (b &&& c)
theorem sg0_lt {x : Nat} (h : x < 4294967296) : sg0 x < 4294967296 := xor_lt (xor_lt (rr_lt h _) (rr_lt h _)) (Nat.lt_of_le_of_lt (Nat.div_le_self _ _) h)
theorem sg1_lt {x : Nat} (h : x < 4294967296) : sg1 x < 4294967296 := xor_lt (xor_lt (rr_lt h _) (rr_lt h _)) (Nat.lt_of_le_of_lt (Nat.div_le_self _ _) h)
theorem bs0_lt {x : Nat} (h : x < 4294967296) : bs0 x < 4294967296 := xor_lt (xor_lt (rr_lt h _) (rr_lt h _)) (rr_lt h _)
theorem bs1_lt {x : Nat} (h : x < 4294967296) : bs1 x < 4294967296 := xor_lt (xor_lt (rr_lt h _) (rr_lt h _)) (rr_lt h _)
theorem chs_lt {e f g : Nat} (h : e < 4294967296) : chs e f g < 4294967296 := xor_lt (and_lt h) (and_lt (nt_lt e))
theorem maj_lt {a b c : Nat} (h : a < 4294967296) (h' : b < 4294967296) : maj a b c < 4294967296 := xor_lt (xor_lt (and_lt h) (and_lt h)) (and_lt h')

/-! ## the words of a block -/
/-- word i, as far as m of its bytes go -/
def acc (bl : Nat → Nat) (i : Nat) : Nat → Nat
  | 0 => 0
  | m + 1 => acc bl i m * 256 + bl (4 * i + m)
/-- word i after j bytes -/
def wpart (bl : Nat → Nat) (j i : Nat) : Nat := acc bl i (min 4 (j - 4 * i))
theorem acc_lt {bl : Nat → Nat} (hb : ∀ i, bl i < 256) (i m : Nat) : acc bl i m < 256 ^ m := by
  induction m with
  | zero => simp [acc]
  | succ m ih =>
    have := hb (4 * i + m)
    simp only [acc]
    rw [Nat.pow_succ]
    omega
theorem wpart_lt {bl : Nat → Nat} (hb : ∀ i, bl i < 256) (j i : Nat) : wpart bl j i < 4294967296 := by
  have h := acc_lt hb i (min 4 (j - 4 * i))
  exact Nat.lt_of_lt_of_le h (Nat.pow_le_pow_right (n := 256) (by decide) (Nat.min_le_left _ _))
theorem wpart_zero (bl : Nat → Nat) (i : Nat) : wpart bl 0 i = 0 := by simp [wpart, acc]
theorem wpart_same (bl : Nat → Nat) (j : Nat) : wpart bl (j + 1) (j / 4) = wpart bl j (j / 4) * 256 + bl j := by
  unfold wpart
  have e1 : min 4 (j - 4 * (j / 4)) = j % 4 := by omega
  have e2 : min 4 (j + 1 - 4 * (j / 4)) = j % 4 + 1 := by omega
  have e3 : 4 * (j / 4) + j % 4 = j := by omega
  rw [e1, e2, acc, e3]
theorem wpart_low {bl : Nat → Nat} (hb : ∀ i, bl i < 256) (j : Nat) : wpart bl j (j / 4) < 16777216 := by
  have h := acc_lt hb (j / 4) (min 4 (j - 4 * (j / 4)))
  have h3 : min 4 (j - 4 * (j / 4)) ≤ 3 := by omega
  exact Nat.lt_of_lt_of_le h (Nat.pow_le_pow_right (n := 256) (by decide) h3)
theorem wpart_other (bl : Nat → Nat) {j i : Nat} (h : i ≠ j / 4) : wpart bl (j + 1) i = wpart bl j i := by
  unfold wpart
  congr 1
  omega
theorem wpart_all (bl : Nat → Nat) {i : Nat} (h : i < 16) : wpart bl 64 i = acc bl i 4 := by
  unfold wpart
  congr 1
  omega

def nextw (l : List Nat) (n : Nat) : Nat := ad (ad (ad (l.getD (n - 16) 0) (sg0 (l.getD (n - 15) 0))) (l.getD (n - 7) 0)) (sg1 (l.getD (n - 2) 0))
def wl (bl : Nat → Nat) : Nat → List Nat
  | 0 => (List.range 16).map fun i => acc bl i 4
  | k + 1 => wl bl k ++ [nextw (wl bl k) (16 + k)]
/-- the words of a block -/
def wds (bl : Nat → Nat) (i : Nat) : Nat := (wl bl 48).getD i 0
theorem wl_len (bl : Nat → Nat) (k : Nat) : (wl bl k).length = 16 + k := by
  induction k with
  | zero => simp [wl]
  | succ k ih => simp [wl, ih]; omega
theorem wl_more (bl : Nat → Nat) (k m i : Nat) (h : i < 16 + k) : (wl bl (k + m)).getD i 0 = (wl bl k).getD i 0 := by
  induction m with
  | zero => rfl
  | succ m ih =>
    rw [← ih, ← Nat.add_assoc, wl]
    rw [List.getD_eq_getElem?_getD, List.getElem?_append_left (by rw [wl_len]; omega), List.getD_eq_getElem?_getD]
theorem wds_at (bl : Nat → Nat) {k i : Nat} (h : i < 16 + k) (hk : k ≤ 48) : (wl bl k).getD i 0 = wds bl i := by
  have := wl_more bl k (48 - k) i h
  rw [show k + (48 - k) = 48 by omega] at this
  exact this.symm
theorem wds_first (bl : Nat → Nat) {i : Nat} (h : i < 16) : wds bl i = acc bl i 4 := by
  rw [← wds_at bl (k := 0) (by omega) (by omega)]
  simp [wl, h]
theorem wpart_wds (bl : Nat → Nat) {i : Nat} (h : i < 64) : wpart bl 64 i = if i < 16 then wds bl i else 0 := by
  split
  · rw [wpart_all bl ‹_›, wds_first bl ‹_›]
  · unfold wpart
    rw [show min 4 (64 - 4 * i) = 0 by omega]
    rfl
theorem wl_succ (bl : Nat → Nat) (k : Nat) : wl bl (k + 1) = wl bl k ++ [nextw (wl bl k) (16 + k)] := by rw [wl]
theorem getD_last (l : List Nat) (x n : Nat) (h : n = l.length) : (l ++ [x]).getD n 0 = x := by
  subst h
  simp
theorem wl_last (bl : Nat → Nat) (k : Nat) : (wl bl (k + 1)).getD (16 + k) 0 = nextw (wl bl k) (16 + k) := by
  rw [wl_succ]
  exact getD_last _ _ _ (wl_len bl k).symm
theorem wds_nx (bl : Nat → Nat) {k : Nat} (h' : k < 48) : wds bl (16 + k) = nextw (wl bl k) (16 + k) := by
  rw [← wds_at bl (k := k + 1) (i := 16 + k) (by omega) (by omega)]
  exact wl_last bl k
theorem nextw_wl (bl : Nat → Nat) {k : Nat} (h' : k < 48) : nextw (wl bl k) (16 + k) = ad (ad (ad (wds bl (16 + k - 16)) (sg0 (wds bl (16 + k - 15)))) (wds bl (16 + k - 7))) (sg1 (wds bl (16 + k - 2))) := by
  unfold nextw
  rw [wds_at bl (by omega) (by omega), wds_at bl (by omega) (by omega), wds_at bl (by omega) (by omega), wds_at bl (by omega) (by omega)]
theorem wds_next (bl : Nat → Nat) {n : Nat} (h : 16 ≤ n) (h' : n < 64) : wds bl n = ad (ad (ad (wds bl (n - 16)) (sg0 (wds bl (n - 15)))) (wds bl (n - 7))) (sg1 (wds bl (n - 2))) := by
  obtain ⟨k, rfl⟩ : ∃ k, n = 16 + k := ⟨n - 16, by omega⟩
  rw [wds_nx bl (by omega), nextw_wl bl (by omega)]
theorem wds_lt {bl : Nat → Nat} (hb : ∀ i, bl i < 256) {n : Nat} (h : n < 64) : wds bl n < 4294967296 := by
  by_cases h16 : n < 16
  · rw [wds_first bl h16]; exact acc_lt hb n 4
  · rw [wds_next bl (by omega) h]; exact ad_lt _ _

/-! ## the rounds -/
structure St where
  a : Nat
  b : Nat
  c : Nat
  d : Nat
  e : Nat
  f : Nat
  g : Nat
  h : Nat
def St.get (s : St) : Nat → Nat
  | 0 => s.a
  | 1 => s.b
  | 2 => s.c
  | 3 => s.d
  | 4 => s.e
  | 5 => s.f
  | 6 => s.g
  | 7 => s.h
  | _ => 0
def St.ok (s : St) : Prop := ∀ i, s.get i < 4294967296
def stOf (f : Nat → Nat) : St := ⟨f 0, f 1, f 2, f 3, f 4, f 5, f 6, f 7⟩
theorem stOf_get (f : Nat → Nat) {i : Nat} (h : i < 8) : (stOf f).get i = f i := by
  rcases i with _ | _ | _ | _ | _ | _ | _ | _ | i <;> first | rfl | omega
def tOf (s : St) (k w : Nat) : Nat := ad (ad (ad (ad s.h (bs1 s.e)) (chs s.e s.f s.g)) k) w
def uOf (s : St) : Nat := ad (bs0 s.a) (maj s.a s.b s.c)
def rnd (s : St) (k w : Nat) : St := ⟨ad (tOf s k w) (uOf s), s.a, s.b, s.c, ad s.d (tOf s k w), s.e, s.f, s.g⟩
theorem tOf_lt (s : St) (k w : Nat) : tOf s k w < 4294967296 := ad_lt _ _
theorem uOf_lt (s : St) : uOf s < 4294967296 := ad_lt _ _
theorem St.ok_mk {a b c d e f g h : Nat} (ha : a < 4294967296) (hb : b < 4294967296) (hc : c < 4294967296) (hd : d < 4294967296) (he : e < 4294967296) (hf : f < 4294967296) (hg : g < 4294967296) (hh : h < 4294967296) : (St.mk a b c d e f g h).ok := by
  intro i
  rcases i with _ | _ | _ | _ | _ | _ | _ | _ | i <;> simp only [St.get] <;> first | assumption | omega
theorem rnd_ok {s : St} (h : s.ok) (k w : Nat) : (rnd s k w).ok :=
  St.ok_mk (ad_lt _ _) (h 0) (h 1) (h 2) (ad_lt _ _) (h 4) (h 5) (h 6)
def rounds (K W : Nat → Nat) (s : St) : Nat → St
  | 0 => s
  | i + 1 => rnd (rounds K W s i) (K i) (W i)
theorem rounds_ok {K W : Nat → Nat} {s : St} (h : s.ok) (i : Nat) : (rounds K W s i).ok := by
  induction i with
  | zero => exact h
  | succ i ih => exact rnd_ok ih _ _
theorem rounds_succ (K W : Nat → Nat) (s : St) (i : Nat) : rounds K W s (i + 1) = rnd (rounds K W s i) (K i) (W i) := by rw [rounds]
theorem rnd_a (s : St) (k w : Nat) : (rnd s k w).a = ad (tOf s k w) (uOf s) := by simp only [rnd]
theorem rnd_b (s : St) (k w : Nat) : (rnd s k w).b = s.a := by simp only [rnd]
theorem rnd_c (s : St) (k w : Nat) : (rnd s k w).c = s.b := by simp only [rnd]
theorem rnd_d (s : St) (k w : Nat) : (rnd s k w).d = s.c := by simp only [rnd]
theorem rnd_e (s : St) (k w : Nat) : (rnd s k w).e = ad s.d (tOf s k w) := by simp only [rnd]
theorem rnd_f (s : St) (k w : Nat) : (rnd s k w).f = s.e := by simp only [rnd]
theorem rnd_g (s : St) (k w : Nat) : (rnd s k w).g = s.f := by simp only [rnd]
theorem rnd_h (s : St) (k w : Nat) : (rnd s k w).h = s.g := by simp only [rnd]
def addSt (s r : St) : St := ⟨ad s.a r.a, ad s.b r.b, ad s.c r.c, ad s.d r.d, ad s.e r.e, ad s.f r.f, ad s.g r.g, ad s.h r.h⟩
theorem addSt_get (s r : St) {i : Nat} (h : i < 8) : (addSt s r).get i = ad (s.get i) (r.get i) := by
  unfold addSt
  rcases i with _ | _ | _ | _ | _ | _ | _ | _ | i <;> first | (simp only [St.get]; done) | omega
theorem addSt_ok (s r : St) : (addSt s r).ok := St.ok_mk (ad_lt _ _) (ad_lt _ _) (ad_lt _ _) (ad_lt _ _) (ad_lt _ _) (ad_lt _ _) (ad_lt _ _) (ad_lt _ _)
/-- the state after a block -/
def blk (K : Nat → Nat) (s : St) (bl : Nat → Nat) : St := addSt s (rounds K (wds bl) s 64)
theorem blk_ok (K : Nat → Nat) (s : St) (bl : Nat → Nat) : (blk K s bl).ok := addSt_ok _ _

/-! ## the digest -/
/-- byte i of the words of a state -/
def dig (s : St) (i : Nat) : Nat := s.get (i / 4) / 2 ^ (24 - i % 4 * 8) % 256
theorem dig_lt (s : St) (i : Nat) : dig s i < 256 := Nat.mod_lt _ (by decide)
def st0 : St := ⟨1779033703, 3144134277, 1013904242, 2773480762, 1359893119, 2600822924, 528734635, 1541459225⟩
theorem st0_ok : st0.ok := St.ok_mk (by decide) (by decide) (by decide) (by decide) (by decide) (by decide) (by decide) (by decide)

/-! ## the padding -/
/-- the zero bytes of the padding of n bytes -/
def zeros (n : Nat) : Nat := (119 - n % 64) % 64
theorem zeros_lt (n : Nat) : zeros n < 64 := Nat.mod_lt _ (by decide)
theorem zeros_fill (n : Nat) : (n + 1 + zeros n + 8) % 64 = 0 := by unfold zeros; omega
/-- the size of n bytes in bits, as 8 bytes -/
def size8 (n : Nat) : List UInt8 := (List.range 8).map fun i => UInt8.ofNat (8 * n / 2 ^ (8 * (7 - i)))
def pad (n : Nat) : List UInt8 := 128 :: (List.replicate (zeros n) 0 ++ size8 n)
theorem pad_len (n : Nat) : (pad n).length = 1 + zeros n + 8 := by simp [pad, size8]; omega
theorem pad_fill (n : Nat) : (n + (pad n).length) % 64 = 0 := by rw [pad_len]; have := zeros_fill n; omega

/-! ## the blocks of bytes -/
/-- a list of bytes as numbers -/
def byt (l : List UInt8) (i : Nat) : Nat := (l.getD i 0).toNat
theorem byt_lt (l : List UInt8) (i : Nat) : byt l i < 256 := UInt8.toNat_lt _
/-- the state after m blocks of l -/
def run (K : Nat → Nat) (s : St) (l : List UInt8) : Nat → St
  | 0 => s
  | m + 1 => blk K (run K s l m) (byt (l.drop (64 * m)))
theorem run_succ (K : Nat → Nat) (s : St) (l : List UInt8) (m : Nat) : run K s l (m + 1) = blk K (run K s l m) (byt (l.drop (64 * m))) := by rw [run]
theorem run_ok (K : Nat → Nat) {s : St} (h : s.ok) (l : List UInt8) (m : Nat) : (run K s l m).ok := by
  cases m with
  | zero => rw [run]; exact h
  | succ m => rw [run_succ]; exact blk_ok _ _ _
/-- the digest of bytes -/
def sum (K : Nat → Nat) (l : List UInt8) : Nat → Nat := dig (run K st0 (l ++ pad l.length) ((l ++ pad l.length).length / 64))

end Go.Proofs.YtdbmkkjpdhnllaaDoor
