/-
  Streams of blocks in plain numbers: the block of a nonce and a number, the bytes of a stream, and the list of blocks from which a part of it is cut.
-/
import Derived.Test.YtdmfajcbbolfiaaAesM
namespace Go.Proofs.Ytdmfajcbbolfiaa
open Go.RowKit
set_option linter.unusedVariables false
set_option linter.unusedSimpArgs false

/-- the nonce and the number i, highest byte first -/
def cin (nonce : Nat → Nat) (i : Nat) : Bk := fun j => if j < 8 then nonce j else i / 256 ^ (15 - j) % 256
/-- the block i of the stream -/
def cblk (key nonce : Nat → Nat) (i : Nat) : Bk := enc key (cin nonce i)
/-- the byte p of the stream -/
def strb (key nonce : Nat → Nat) (p : Nat) : Nat := cblk key nonce (p / 16) (p % 16)
/-- n bytes of the stream from at on -/
def strm (key nonce : Nat → Nat) (at_ n : Nat) : List UInt8 := (List.range n).map fun j => UInt8.ofNat (strb key nonce (at_ + j))
def Byt8 (f : Nat → Nat) : Prop := ∀ i, i < 8 → f i < 256
theorem cin_byt {nonce : Nat → Nat} (h : Byt8 nonce) (i : Nat) : Byt (cin nonce i) := fun j hj => by
  unfold cin
  split
  · exact h j (by omega)
  · exact Nat.mod_lt _ (by decide)
theorem cblk_byt {key nonce : Nat → Nat} (hk : Byt key) (h : Byt8 nonce) (i : Nat) : Byt (cblk key nonce i) := enc_byt hk (cin_byt h i)
theorem strb_lt {key nonce : Nat → Nat} (hk : Byt key) (h : Byt8 nonce) (p : Nat) : strb key nonce p < 256 := cblk_byt hk h _ _ (Nat.mod_lt _ (by decide))
theorem strm_len (key nonce : Nat → Nat) (at_ n : Nat) : (strm key nonce at_ n).length = n := by simp [strm]
theorem strm_zero (key nonce : Nat → Nat) (at_ : Nat) : strm key nonce at_ 0 = [] := rfl
theorem strm_succ (key nonce : Nat → Nat) (at_ n : Nat) : strm key nonce at_ (n + 1) = strm key nonce at_ n ++ [UInt8.ofNat (strb key nonce (at_ + n))] := by
  simp [strm, List.range_succ]
theorem strm_add (key nonce : Nat → Nat) (at_ n m : Nat) : strm key nonce at_ (n + m) = strm key nonce at_ n ++ strm key nonce (at_ + n) m := by
  induction m with
  | zero => rw [strm_zero, List.append_nil, Nat.add_zero]
  | succ m ih => rw [← Nat.add_assoc, strm_succ, ih, strm_succ, List.append_assoc, Nat.add_assoc]
theorem strm_get {key nonce : Nat → Nat} {at_ n i : Nat} (h : i < n) : (strm key nonce at_ n)[i]? = some (UInt8.ofNat (strb key nonce (at_ + i))) := by simp [strm, h]

/-! ## the blocks that are yielded -/
abbrev CB := { x : Nat × (Nat → Nat) // x.1 < 16 ∧ Byt x.2 }
def cbm (key nonce : Nat → Nat) (hk : Byt key) (h : Byt8 nonce) (nx : Nat) : CB := ⟨(nx % 16, cblk key nonce (nx / 16)), Nat.mod_lt _ (by decide), cblk_byt hk h _⟩
/-- the blocks from the byte nx on, up to the byte en; no more than c -/
def blf (key nonce : Nat → Nat) (hk : Byt key) (h : Byt8 nonce) (en : Nat) : Nat → Nat → List CB
  | 0, _ => []
  | c + 1, nx => if nx < en then cbm key nonce hk h nx :: blf key nonce hk h en c (nx + (16 - nx % 16)) else []
theorem blf_more (key nonce : Nat → Nat) (hk : Byt key) (h : Byt8 nonce) (en : Nat) : ∀ (c d nx : Nat), en ≤ nx + c → en ≤ nx + d → blf key nonce hk h en c nx = blf key nonce hk h en d nx
  | 0, 0, nx, _, _ => rfl
  | 0, d + 1, nx, h1, _ => by rw [blf, blf, if_neg (by omega)]
  | c + 1, 0, nx, _, h2 => by rw [blf, blf, if_neg (by omega)]
  | c + 1, d + 1, nx, h1, h2 => by
    rw [blf, blf]
    split
    · rw [blf_more key nonce hk h en c d _ (by omega) (by omega)]
    · rfl
def bl (key nonce : Nat → Nat) (hk : Byt key) (h : Byt8 nonce) (en nx : Nat) : List CB := blf key nonce hk h en (en - nx) nx
theorem bl_lt {key nonce : Nat → Nat} (hk : Byt key) (h : Byt8 nonce) {en nx : Nat} (hl : nx < en) : bl key nonce hk h en nx = cbm key nonce hk h nx :: bl key nonce hk h en (nx + (16 - nx % 16)) := by
  unfold bl
  obtain ⟨c, hc⟩ : ∃ c, en - nx = c + 1 := ⟨en - nx - 1, by omega⟩
  rw [hc, blf, if_pos hl, blf_more key nonce hk h en c (en - (nx + (16 - nx % 16))) _ (by omega) (by omega)]
theorem bl_ge {key nonce : Nat → Nat} (hk : Byt key) (h : Byt8 nonce) {en nx : Nat} (hl : en ≤ nx) : bl key nonce hk h en nx = [] := by
  unfold bl
  rw [show en - nx = 0 by omega, blf]

/-! ## the bytes that are cut from them -/
/-- bytes a, a + 1 .. of a block, c of them -/
def cut (f : Nat → Nat) (a c : Nat) : List UInt8 := (List.range c).map fun j => UInt8.ofNat (f (a + j))
theorem cut_len (f : Nat → Nat) (a c : Nat) : (cut f a c).length = c := by simp [cut]
theorem cut_get {f : Nat → Nat} {a c i : Nat} (h : i < c) : (cut f a c)[i]? = some (UInt8.ofNat (f (a + i))) := by simp [cut, h]
/-- how many bytes of a block come to k bytes of n -/
def hmc (n k first : Nat) : Nat := min 16 (first + (n - k)) - first
def ctx (n : Nat) (acc : List UInt8) (x : CB) : List UInt8 := acc ++ cut x.1.2 x.1.1 (hmc n acc.length x.1.1)
def ct (n : Nat) (xs : List CB) : List UInt8 := xs.foldl (ctx n) []
theorem ct_snoc (n : Nat) (xs : List CB) (x : CB) : ct n (xs ++ [x]) = ct n xs ++ cut x.1.2 x.1.1 (hmc n (ct n xs).length x.1.1) := by
  unfold ct
  rw [List.foldl_append]
  rfl
theorem ct_nil (n : Nat) : ct n [] = [] := rfl
theorem ct_le (n : Nat) (xs : List CB) : (ct n xs).length ≤ n := by
  have key : ∀ (xs : List CB) (acc : List UInt8), acc.length ≤ n → (xs.foldl (ctx n) acc).length ≤ n := by
    intro xs
    induction xs with
    | nil => exact fun acc h => h
    | cons x xs ih =>
      intro acc h
      refine ih _ ?_
      unfold ctx
      rw [List.length_append, cut_len]
      unfold hmc
      omega
  exact key xs [] (Nat.zero_le _)
theorem cut_strm {key nonce : Nat → Nat} (nx c : Nat) (h : nx % 16 + c ≤ 16) : cut (cblk key nonce (nx / 16)) (nx % 16) c = strm key nonce nx c := by
  unfold cut strm
  refine List.map_congr_left fun j hj => ?_
  rw [List.mem_range] at hj
  unfold strb
  rw [show (nx + j) / 16 = nx / 16 by omega, show (nx + j) % 16 = nx % 16 + j by omega]
theorem ct_go (key nonce : Nat → Nat) (hk : Byt key) (h : Byt8 nonce) (at_ n : Nat) : ∀ (c nx k : Nat), at_ + n - nx ≤ c → at_ ≤ nx → k = min n (nx - at_) → (bl key nonce hk h (at_ + n) nx).foldl (ctx n) (strm key nonce at_ k) = strm key nonce at_ n := by
  intro c
  induction c with
  | zero =>
    intro nx k hc hn he
    rw [bl_ge hk h (by omega), show k = n by omega]
    rfl
  | succ c ih =>
    intro nx k hc hn he
    by_cases hl : nx < at_ + n
    · rw [bl_lt hk h hl, List.foldl_cons]
      have hx : ctx n (strm key nonce at_ k) (cbm key nonce hk h nx) = strm key nonce at_ (min n (nx + (16 - nx % 16) - at_)) := by
        unfold ctx
        rw [strm_len]
        show _ ++ cut (cblk key nonce (nx / 16)) (nx % 16) (hmc n k (nx % 16)) = _
        have hh : hmc n k (nx % 16) = min n (nx + (16 - nx % 16) - at_) - k := by unfold hmc; omega
        have hb : nx % 16 + hmc n k (nx % 16) ≤ 16 := by unfold hmc; omega
        rw [cut_strm _ _ hb, hh]
        obtain ⟨d, hd⟩ : ∃ d, min n (nx + (16 - nx % 16) - at_) = k + d := ⟨min n (nx + (16 - nx % 16) - at_) - k, by omega⟩
        rw [hd, strm_add, Nat.add_sub_cancel_left, show at_ + k = nx by omega]
      rw [hx]
      exact ih _ _ (by omega) (by omega) rfl
    · rw [bl_ge hk h (by omega), show k = n by omega]
      rfl
theorem ct_bl (key nonce : Nat → Nat) (hk : Byt key) (h : Byt8 nonce) (at_ n : Nat) : ct n (bl key nonce hk h (at_ + n) at_) = strm key nonce at_ n := by
  have := ct_go key nonce hk h at_ n (at_ + n - at_) at_ 0 (by omega) (by omega) (by omega)
  rw [strm_zero] at this
  exact this
end Go.Proofs.Ytdmfajcbbolfiaa
