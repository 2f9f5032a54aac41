/-
  HMAC-SHA256 in plain numbers: the padded key, the code, the derived strings.
-/
import Derived.Test.YtdbmkkjpdhnllaaDoorShaE
namespace Go.Proofs.YtdbmkkjpdhnllaaDoor
open Go.RowKit

theorem sum_lt (l : List UInt8) (i : Nat) : sum kc l i < 256 := by unfold sum; exact dig_lt _ _
/-- n numbers as bytes -/
def btl (n : Nat) (f : Nat → Nat) : List UInt8 := (List.range n).map fun i => UInt8.ofNat (f i)
theorem btl_len (n : Nat) (f : Nat → Nat) : (btl n f).length = n := by simp [btl]
theorem btl_get {n : Nat} {f : Nat → Nat} {i : Nat} (h : i < n) : (btl n f)[i]? = some (UInt8.ofNat (f i)) := by simp [btl, h]
theorem btl_byt {n : Nat} {f : Nat → Nat} (hf : ∀ i, i < n → f i < 256) {i : Nat} (h : i < n) : byt (btl n f) i = f i := by
  unfold byt
  rw [List.getD_eq_getElem?_getD, btl_get h, Option.getD_some, UInt8.toNat_ofNat']
  exact Nat.mod_eq_of_lt (hf i h)
theorem btl_congr {n : Nat} {f g : Nat → Nat} (h : ∀ i, i < n → f i = g i) : btl n f = btl n g := by
  unfold btl
  exact List.map_congr_left fun i hi => by rw [h i (List.mem_range.1 hi)]
/-- the digest as bytes -/
def dg (l : List UInt8) : List UInt8 := btl 32 (sum kc l)
theorem dg_len (l : List UInt8) : (dg l).length = 32 := btl_len _ _
theorem dg_byt (l : List UInt8) {i : Nat} (h : i < 32) : byt (dg l) i = sum kc l i := btl_byt (fun i _ => sum_lt l i) h
/-- the key, or its digest -/
def kb (key : List UInt8) : List UInt8 := if 64 < key.length then dg key else key
theorem kb_len (key : List UInt8) : (kb key).length ≤ 64 := by
  unfold kb
  split
  · rw [dg_len]; decide
  · omega
/-- the key's bytes, combined with a mask -/
def xk (f : Nat → Nat) (m : Nat) : List UInt8 := btl 64 fun i => f i ^^^ m
theorem xk_len (f : Nat → Nat) (m : Nat) : (xk f m).length = 64 := btl_len _ _
theorem xor256 {a b : Nat} (ha : a < 256) (hb : b < 256) : a ^^^ b < 256 := Nat.xor_lt_two_pow (n := 8) ha hb
/-- the code of bytes under a padded key -/
def ihash (f : Nat → Nat) (l : List UInt8) : List UInt8 := dg (xk f 54 ++ l)
def cd (f : Nat → Nat) (l : List UInt8) : Nat → Nat := sum kc (xk f 92 ++ ihash f l)
theorem cd_lt (f : Nat → Nat) (l : List UInt8) (i : Nat) : cd f l i < 256 := sum_lt _ _
/-- the code of bytes under a key -/
def hm (key l : List UInt8) : Nat → Nat := cd (byt (kb key)) l
theorem hm_lt (key l : List UInt8) (i : Nat) : hm key l i < 256 := cd_lt _ _ _
theorem xk_congr {f g : Nat → Nat} (h : ∀ i, i < 64 → f i = g i) (m : Nat) : xk f m = xk g m := btl_congr fun i hi => by rw [h i hi]
theorem cd_congr {f g : Nat → Nat} (h : ∀ i, i < 64 → f i = g i) (l : List UInt8) : cd f l = cd g l := by
  unfold cd ihash
  rw [xk_congr h, xk_congr h]
/-- a key with a zero byte more has the same codes -/
theorem byt_zero (l : List UInt8) (i : Nat) : byt (l ++ [0]) i = byt l i := by
  by_cases h : i < l.length
  · exact byt_left _ _ h
  · rw [byt_right l [0] (by omega)]
    unfold byt
    rw [List.getD_eq_getElem?_getD, List.getD_eq_getElem?_getD, List.getElem?_eq_none (l := l) (by omega)]
    rcases i - l.length with _ | n <;> rfl
theorem hm_zero {key : List UInt8} (h : key.length ≤ 63) (l : List UInt8) : hm (key ++ [0]) l = hm key l := by
  unfold hm kb
  rw [if_neg (by rw [List.length_append]; simp; omega), if_neg (by omega)]
  exact cd_congr (fun i _ => byt_zero key i) l

/-! ## derived strings -/
/-- the code's bytes -/
def cdl (f : Nat → Nat) (l : List UInt8) : List UInt8 := btl 32 (cd f l)
theorem cdl_len (f : Nat → Nat) (l : List UInt8) : (cdl f l).length = 32 := btl_len _ _
/-- m codes -/
def dv (f : Nat → Nat) (lab : List UInt8) : Nat → List UInt8
  | 0 => []
  | m + 1 => dv f lab m ++ cdl f (UInt8.ofNat (m + 1) :: lab)
theorem dv_succ (f : Nat → Nat) (lab : List UInt8) (m : Nat) : dv f lab (m + 1) = dv f lab m ++ cdl f (UInt8.ofNat (m + 1) :: lab) := by rw [dv]
theorem dv_len (f : Nat → Nat) (lab : List UInt8) (m : Nat) : (dv f lab m).length = 32 * m := by
  induction m with
  | zero => rw [dv]; rfl
  | succ m ih => rw [dv_succ, List.length_append, ih, cdl_len]; omega
theorem dv_more (f : Nat → Nat) (lab : List UInt8) (m d n : Nat) (h : n ≤ 32 * m) : (dv f lab (m + d)).take n = (dv f lab m).take n := by
  induction d with
  | zero => rfl
  | succ d ih => rw [← Nat.add_assoc, dv_succ, List.take_append_of_le_length (by rw [dv_len]; omega), ih]
/-- the derived string of n bytes -/
def drv (f : Nat → Nat) (lab : List UInt8) (n : Nat) : List UInt8 := (dv f lab ((n + 31) / 32)).take n
theorem drv_len (f : Nat → Nat) (lab : List UInt8) (n : Nat) : (drv f lab n).length = n := by
  unfold drv
  rw [List.length_take, dv_len]
  omega
theorem drv_at (f : Nat → Nat) (lab : List UInt8) (n m : Nat) (h : n ≤ 32 * m) : (dv f lab m).take n = drv f lab n := by
  unfold drv
  obtain ⟨d, rfl⟩ : ∃ d, m = (n + 31) / 32 + d := ⟨m - (n + 31) / 32, by omega⟩
  exact dv_more f lab _ d n (by omega)
theorem drv_take (f : Nat → Nat) (lab : List UInt8) {k n : Nat} (h : k ≤ n) : (drv f lab n).take k = drv f lab k := by
  unfold drv
  rw [List.take_take, Nat.min_eq_left h]
  exact drv_at f lab k ((n + 31) / 32) (by omega)
/-- a part of the next code -/
theorem dv_part (f : Nat → Nat) (lab : List UInt8) {m n : Nat} (h : 32 * m < n) :
    (dv f lab m).take n ++ (cdl f (UInt8.ofNat (m + 1) :: lab)).take (min 32 (n - 32 * m)) = (dv f lab (m + 1)).take n := by
  have hl := dv_len f lab m
  have hc := cdl_len f (UInt8.ofNat (m + 1) :: lab)
  rw [dv_succ, List.take_append, hl, List.take_of_length_le (l := dv f lab m) (by omega)]
  congr 1
  by_cases h2 : n - 32 * m ≤ 32
  · rw [Nat.min_eq_right h2]
  · rw [Nat.min_eq_left (by omega), List.take_of_length_le (by omega), List.take_of_length_le (by omega)]
theorem dv_take_len (f : Nat → Nat) (lab : List UInt8) (m n : Nat) : ((dv f lab m).take n).length = min n (32 * m) := by rw [List.length_take, dv_len]

/-! ## equal bytes: what the differences come to -/
/-- all differences of the first k bytes, together -/
def dif (a b : List UInt8) : Nat → Nat
  | 0 => 0
  | k + 1 => dif a b k ||| (byt a k ^^^ byt b k)
theorem dif_lt (a b : List UInt8) (k : Nat) : dif a b k < 256 := by
  induction k with
  | zero => rw [dif]; decide
  | succ k ih => rw [dif]; exact Nat.or_lt_two_pow (n := 8) ih (xor256 (byt_lt _ _) (byt_lt _ _))
theorem xor_zero {a b : Nat} : a ^^^ b = 0 ↔ a = b := by
  constructor
  · intro h
    have h2 : (a ^^^ b) ^^^ b = 0 ^^^ b := by rw [h]
    rw [Nat.xor_assoc, Nat.xor_self, Nat.xor_zero, Nat.zero_xor] at h2
    exact h2
  · rintro rfl; exact Nat.xor_self a
theorem or_zero {a b : Nat} : a ||| b = 0 ↔ a = 0 ∧ b = 0 := Nat.or_eq_zero_iff
theorem dif_zero (a b : List UInt8) (k : Nat) : dif a b k = 0 ↔ ∀ i, i < k → byt a i = byt b i := by
  induction k with
  | zero => rw [dif]; exact ⟨fun _ i hi => by omega, fun _ => rfl⟩
  | succ k ih =>
    rw [dif, or_zero, ih, xor_zero]
    constructor
    · rintro ⟨h1, h2⟩ i hi
      by_cases e : i = k
      · subst e; exact h2
      · exact h1 i (by omega)
    · intro h
      exact ⟨fun i hi => h i (by omega), h k (by omega)⟩
theorem byt_inj {a b : List UInt8} (hl : a.length = b.length) (h : ∀ i, i < a.length → byt a i = byt b i) : a = b := by
  apply List.ext_getElem hl
  intro i h1 h2
  have := h i h1
  unfold byt at this
  rw [List.getD_eq_getElem?_getD, List.getD_eq_getElem?_getD, List.getElem?_eq_getElem h1, List.getElem?_eq_getElem h2] at this
  exact UInt8.toNat_inj.1 this
theorem dif_all {a b : List UInt8} (hl : a.length = b.length) : dif a b a.length = 0 ↔ a = b := by
  rw [dif_zero]
  exact ⟨byt_inj hl, fun h => by rw [h]; exact fun _ _ => rfl⟩
theorem byt_getElem {a : List UInt8} {i : Nat} (h : i < a.length) : (a[i]).toNat = byt a i := by
  unfold byt
  rw [List.getD_eq_getElem?_getD, List.getElem?_eq_getElem h]
  rfl
theorem byt_some {a : List UInt8} {i : Nat} {b : UInt8} (h : a[i]? = some b) : b.toNat = byt a i := by
  unfold byt
  rw [List.getD_eq_getElem?_getD, h]
  rfl
/-- an array reads as its bytes -/
theorem Arr.rb {w : World} {g : Nat} {t : TypeId} {n : Nat} {f : Nat → Nat} (h : Arr w g t .u8 n f) (hf : ∀ i, i < n → f i < 256) : RB w (fun g' t' => g' = g ∧ t' = t) (some ⟨g, 0, none⟩) (btl n f) := by
  intro _
  refine ⟨g, 0, _, t, (0, 0), rfl, h, ⟨rfl, rfl⟩, fun j b hj => ?_⟩
  have hj' : j < n := by have := (List.getElem?_eq_some_iff.1 hj).1; rw [btl_len] at this; exact this
  have hb := byt_some hj
  rw [btl_byt hf hj'] at hb
  rw [Nat.zero_add, tabV_get hj', u8, hb]
end Go.Proofs.YtdbmkkjpdhnllaaDoor
