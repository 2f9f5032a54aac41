/-
  AES-128 in plain numbers: rounds, round keys, encryption, decryption; they invert each other.
-/
import Derived.Test.YtdmfajcbbolfiaaFldC
namespace Go.Proofs.Ytdmfajcbbolfiaa
open Go.RowKit
set_option linter.unusedVariables false
set_option linter.unusedSimpArgs false

abbrev Bk := Nat → Nat
/-- the same block -/
def Same (f g : Bk) : Prop := ∀ i, i < 16 → f i = g i
/-- bytes -/
def Byt (f : Bk) : Prop := ∀ i, i < 16 → f i < 256
theorem Same.refl (f : Bk) : Same f f := fun _ _ => rfl
theorem Same.symm {f g : Bk} (h : Same f g) : Same g f := fun i hi => (h i hi).symm
theorem Same.trans {f g k : Bk} (h : Same f g) (h' : Same g k) : Same f k := fun i hi => (h i hi).trans (h' i hi)
def xo (f g : Bk) : Bk := fun i => f i ^^^ g i
def ea (h : Nat → Nat) (f : Bk) : Bk := fun i => h (f i)
def mv (n : Nat) (f : Bk) : Bk := fun i => f (i % 4 + 4 * ((i / 4 + n * (i % 4)) % 4))
def mx (by_ : Nat → Nat) (f : Bk) : Bk := fun i => dot by_ (fun k => f (4 * (i / 4) + (i % 4 + k) % 4)) 4
def b1 : Nat → Nat := q4 2 3 1 1
def b2 : Nat → Nat := q4 14 11 13 9
theorem b1_lt : ∀ i, i < 4 → b1 i < 256 := by decide
theorem b2_lt : ∀ i, i < 4 → b2 i < 256 := by decide
def rnd (f k : Bk) (last : Bool) : Bk := xo (if last then mv 1 (ea sb f) else mx b1 (mv 1 (ea sb f))) k
def urnd (f k : Bk) (last : Bool) : Bk := ea usb (mv 3 (if last then xo f k else mx b2 (xo f k)))
theorem mv_at {i : Nat} (n : Nat) (h : i < 16) : i % 4 + 4 * ((i / 4 + n * (i % 4)) % 4) < 16 := by omega
theorem mx_at {i : Nat} (k : Nat) (h : i < 16) : 4 * (i / 4) + (i % 4 + k) % 4 < 16 := by omega

theorem xo_same {f f' g g' : Bk} (h : Same f f') (h' : Same g g') : Same (xo f g) (xo f' g') := fun i hi => by unfold xo; rw [h i hi, h' i hi]
theorem ea_same {f f' : Bk} (t : Nat → Nat) (h : Same f f') : Same (ea t f) (ea t f') := fun i hi => by unfold ea; rw [h i hi]
theorem mv_same {f f' : Bk} (n : Nat) (h : Same f f') : Same (mv n f) (mv n f') := fun i hi => h _ (mv_at n hi)
theorem mx_same {f f' : Bk} (b : Nat → Nat) (h : Same f f') : Same (mx b f) (mx b f') := fun i hi => dot_congr 4 (fun _ _ => rfl) (fun k _ => h _ (mx_at k hi))
theorem rnd_same {f f' k k' : Bk} (l : Bool) (h : Same f f') (h' : Same k k') : Same (rnd f k l) (rnd f' k' l) := by
  unfold rnd
  refine xo_same ?_ h'
  split
  · exact mv_same 1 (ea_same sb h)
  · exact mx_same _ (mv_same 1 (ea_same sb h))
theorem urnd_same {f f' k k' : Bk} (l : Bool) (h : Same f f') (h' : Same k k') : Same (urnd f k l) (urnd f' k' l) := by
  unfold urnd
  refine ea_same _ (mv_same _ ?_)
  split
  · exact xo_same h h'
  · exact mx_same _ (xo_same h h')
theorem xo_byt {f g : Bk} (h : Byt f) (h' : Byt g) : Byt (xo f g) := fun i hi => xor8 (h i hi) (h' i hi)
theorem ea_sb {f : Bk} (h : Byt f) : Byt (ea sb f) := fun i hi => sb_lt _ (h i hi)
theorem ea_usb {f : Bk} (h : Byt f) : Byt (ea usb f) := fun i hi => usb_lt _ (h i hi)
theorem mv_byt {f : Bk} (n : Nat) (h : Byt f) : Byt (mv n f) := fun i hi => h _ (mv_at n hi)
theorem mx_byt {f : Bk} {b : Nat → Nat} (hb : ∀ i, i < 4 → b i < 256) (h : Byt f) : Byt (mx b f) := fun i hi => dot_lt hb (fun k _ => h _ (mx_at k hi)) 4 (Nat.le_refl _)
theorem rnd_byt {f k : Bk} (l : Bool) (h : Byt f) (h' : Byt k) : Byt (rnd f k l) := by
  unfold rnd
  refine xo_byt ?_ h'
  split
  · exact mv_byt 1 (ea_sb h)
  · exact mx_byt b1_lt (mv_byt 1 (ea_sb h))
theorem urnd_byt {f k : Bk} (l : Bool) (h : Byt f) (h' : Byt k) : Byt (urnd f k l) := by
  unfold urnd
  refine ea_usb (mv_byt _ ?_)
  split
  · exact xo_byt h h'
  · exact mx_byt b2_lt (xo_byt h h')

/-! ## what a round does is undone -/
theorem xo_xo (f k : Bk) : Same (xo (xo f k) k) f := fun i _ => by unfold xo; rw [Nat.xor_assoc, Nat.xor_self, Nat.xor_zero]
theorem mv31 (f : Bk) : Same (mv 3 (mv 1 f)) f := fun i hi => by
  unfold mv
  congr 1
  omega
theorem mv13 (f : Bk) : Same (mv 1 (mv 3 f)) f := fun i hi => by
  unfold mv
  congr 1
  omega
theorem ea_mv (t : Nat → Nat) (n : Nat) (f : Bk) : ea t (mv n f) = mv n (ea t f) := rfl
theorem usb_ea {f : Bk} (h : Byt f) : Same (ea usb (ea sb f)) f := fun i hi => usb_sb _ (h i hi)
theorem sb_ea {f : Bk} (h : Byt f) : Same (ea sb (ea usb f)) f := fun i hi => sb_usb _ (h i hi)

theorem mix_a : ∀ x < 256, gm 14 (gm 2 x) ^^^ (gm 11 (gm 1 x) ^^^ (gm 13 (gm 1 x) ^^^ gm 9 (gm 3 x))) = x := by decide +kernel
theorem mix_b : ∀ x < 256, gm 14 (gm 3 x) ^^^ (gm 11 (gm 2 x) ^^^ (gm 13 (gm 1 x) ^^^ gm 9 (gm 1 x))) = 0 := by decide +kernel
theorem mix_c : ∀ x < 256, gm 14 (gm 1 x) ^^^ (gm 11 (gm 3 x) ^^^ (gm 13 (gm 2 x) ^^^ gm 9 (gm 1 x))) = 0 := by decide +kernel
theorem mix_d : ∀ x < 256, gm 14 (gm 1 x) ^^^ (gm 11 (gm 1 x) ^^^ (gm 13 (gm 3 x) ^^^ gm 9 (gm 2 x))) = 0 := by decide +kernel
theorem nix_a : ∀ x < 256, gm 2 (gm 14 x) ^^^ (gm 3 (gm 9 x) ^^^ (gm 1 (gm 13 x) ^^^ gm 1 (gm 11 x))) = x := by decide +kernel
theorem nix_b : ∀ x < 256, gm 2 (gm 11 x) ^^^ (gm 3 (gm 14 x) ^^^ (gm 1 (gm 9 x) ^^^ gm 1 (gm 13 x))) = 0 := by decide +kernel
theorem nix_c : ∀ x < 256, gm 2 (gm 13 x) ^^^ (gm 3 (gm 11 x) ^^^ (gm 1 (gm 14 x) ^^^ gm 1 (gm 9 x))) = 0 := by decide +kernel
theorem nix_d : ∀ x < 256, gm 2 (gm 9 x) ^^^ (gm 3 (gm 13 x) ^^^ (gm 1 (gm 11 x) ^^^ gm 1 (gm 14 x))) = 0 := by decide +kernel
def m4 (p q r s a b c d : Nat) : Nat := gm p a ^^^ (gm q b ^^^ (gm r c ^^^ gm s d))
theorem dot4 (f g : Nat → Nat) : dot f g 4 = m4 (f 0) (f 1) (f 2) (f 3) (g 0) (g 1) (g 2) (g 3) := by
  simp only [dot, m4, Nat.zero_xor, Nat.xor_assoc]
theorem xor16 {a p1 p2 p3 p4 q1 q2 q3 q4 r1 r2 r3 r4 s1 s2 s3 s4 : Nat} (ha : p1 ^^^ (q1 ^^^ (r1 ^^^ s1)) = a) (hb : p2 ^^^ (q2 ^^^ (r2 ^^^ s2)) = 0) (hc : p3 ^^^ (q3 ^^^ (r3 ^^^ s3)) = 0) (hd : p4 ^^^ (q4 ^^^ (r4 ^^^ s4)) = 0) :
    (p1 ^^^ (p2 ^^^ (p3 ^^^ p4))) ^^^ ((q1 ^^^ (q2 ^^^ (q3 ^^^ q4))) ^^^ ((r1 ^^^ (r2 ^^^ (r3 ^^^ r4))) ^^^ (s1 ^^^ (s2 ^^^ (s3 ^^^ s4))))) = a := by
  calc _ = (p1 ^^^ (q1 ^^^ (r1 ^^^ s1))) ^^^ ((p2 ^^^ (q2 ^^^ (r2 ^^^ s2))) ^^^ ((p3 ^^^ (q3 ^^^ (r3 ^^^ s3))) ^^^ (p4 ^^^ (q4 ^^^ (r4 ^^^ s4))))) := by ac_rfl
    _ = a := by rw [ha, hb, hc, hd]; simp
theorem mix_mix {a b c d : Nat} (ha : a < 256) (hb : b < 256) (hc : c < 256) (hd : d < 256) :
    m4 14 11 13 9 (m4 2 3 1 1 a b c d) (m4 2 3 1 1 b c d a) (m4 2 3 1 1 c d a b) (m4 2 3 1 1 d a b c) = a := by
  simp only [m4, gm_lin]
  have e : (gm 14 (gm 2 a) ^^^ (gm 14 (gm 3 b) ^^^ (gm 14 (gm 1 c) ^^^ gm 14 (gm 1 d)))) ^^^ ((gm 11 (gm 1 a) ^^^ (gm 11 (gm 2 b) ^^^ (gm 11 (gm 3 c) ^^^ gm 11 (gm 1 d)))) ^^^ ((gm 13 (gm 1 a) ^^^ (gm 13 (gm 1 b) ^^^ (gm 13 (gm 2 c) ^^^ gm 13 (gm 3 d)))) ^^^
      (gm 9 (gm 3 a) ^^^ (gm 9 (gm 1 b) ^^^ (gm 9 (gm 1 c) ^^^ gm 9 (gm 2 d)))))) = a := xor16 (mix_a a ha) (mix_b b hb) (mix_c c hc) (mix_d d hd)
  refine Eq.trans ?_ e
  ac_rfl
theorem nix_nix {a b c d : Nat} (ha : a < 256) (hb : b < 256) (hc : c < 256) (hd : d < 256) :
    m4 2 3 1 1 (m4 14 11 13 9 a b c d) (m4 14 11 13 9 b c d a) (m4 14 11 13 9 c d a b) (m4 14 11 13 9 d a b c) = a := by
  simp only [m4, gm_lin]
  have e : (gm 2 (gm 14 a) ^^^ (gm 2 (gm 11 b) ^^^ (gm 2 (gm 13 c) ^^^ gm 2 (gm 9 d)))) ^^^ ((gm 3 (gm 9 a) ^^^ (gm 3 (gm 14 b) ^^^ (gm 3 (gm 11 c) ^^^ gm 3 (gm 13 d)))) ^^^ ((gm 1 (gm 13 a) ^^^ (gm 1 (gm 9 b) ^^^ (gm 1 (gm 14 c) ^^^ gm 1 (gm 11 d)))) ^^^
      (gm 1 (gm 11 a) ^^^ (gm 1 (gm 13 b) ^^^ (gm 1 (gm 9 c) ^^^ gm 1 (gm 14 d)))))) = a := xor16 (nix_a a ha) (nix_b b hb) (nix_c c hc) (nix_d d hd)
  refine Eq.trans ?_ e
  ac_rfl
/-- a column, from row r on -/
theorem mx_m4 (b : Nat → Nat) (f : Bk) {c r : Nat} (hr : r < 4) : mx b f (4 * c + r) = m4 (b 0) (b 1) (b 2) (b 3) (f (4 * c + r)) (f (4 * c + (r + 1) % 4)) (f (4 * c + (r + 2) % 4)) (f (4 * c + (r + 3) % 4)) := by
  unfold mx
  rw [dot4, show (4 * c + r) / 4 = c by omega, show (4 * c + r) % 4 = r by omega, show (r + 0) % 4 = r by omega]
theorem mx21 {f : Bk} (h : Byt f) : Same (mx b2 (mx b1 f)) f := fun i hi => by
  obtain ⟨c, r, hr, hc, rfl⟩ : ∃ c r, r < 4 ∧ c < 4 ∧ i = 4 * c + r := ⟨i / 4, i % 4, by omega, by omega, by omega⟩
  have h0 := h (4 * c + r) (by omega)
  have h1 := h (4 * c + (r + 1) % 4) (by omega)
  have h2 := h (4 * c + (r + 2) % 4) (by omega)
  have h3 := h (4 * c + (r + 3) % 4) (by omega)
  rw [mx_m4 b2 _ hr, mx_m4 b1 _ hr, mx_m4 b1 _ (by omega), mx_m4 b1 _ (by omega), mx_m4 b1 _ (by omega)]
  rw [show ((r + 1) % 4 + 1) % 4 = (r + 2) % 4 by omega, show ((r + 1) % 4 + 2) % 4 = (r + 3) % 4 by omega, show ((r + 1) % 4 + 3) % 4 = r by omega, show ((r + 2) % 4 + 1) % 4 = (r + 3) % 4 by omega, show ((r + 2) % 4 + 2) % 4 = r by omega,
    show ((r + 2) % 4 + 3) % 4 = (r + 1) % 4 by omega, show ((r + 3) % 4 + 1) % 4 = r by omega, show ((r + 3) % 4 + 2) % 4 = (r + 1) % 4 by omega, show ((r + 3) % 4 + 3) % 4 = (r + 2) % 4 by omega]
  exact mix_mix h0 h1 h2 h3
theorem mx12 {f : Bk} (h : Byt f) : Same (mx b1 (mx b2 f)) f := fun i hi => by
  obtain ⟨c, r, hr, hc, rfl⟩ : ∃ c r, r < 4 ∧ c < 4 ∧ i = 4 * c + r := ⟨i / 4, i % 4, by omega, by omega, by omega⟩
  have h0 := h (4 * c + r) (by omega)
  have h1 := h (4 * c + (r + 1) % 4) (by omega)
  have h2 := h (4 * c + (r + 2) % 4) (by omega)
  have h3 := h (4 * c + (r + 3) % 4) (by omega)
  rw [mx_m4 b1 _ hr, mx_m4 b2 _ hr, mx_m4 b2 _ (by omega), mx_m4 b2 _ (by omega), mx_m4 b2 _ (by omega)]
  rw [show ((r + 1) % 4 + 1) % 4 = (r + 2) % 4 by omega, show ((r + 1) % 4 + 2) % 4 = (r + 3) % 4 by omega, show ((r + 1) % 4 + 3) % 4 = r by omega, show ((r + 2) % 4 + 1) % 4 = (r + 3) % 4 by omega, show ((r + 2) % 4 + 2) % 4 = r by omega,
    show ((r + 2) % 4 + 3) % 4 = (r + 1) % 4 by omega, show ((r + 3) % 4 + 1) % 4 = r by omega, show ((r + 3) % 4 + 2) % 4 = (r + 1) % 4 by omega, show ((r + 3) % 4 + 3) % 4 = (r + 2) % 4 by omega]
  exact nix_nix h0 h1 h2 h3
theorem urnd_rnd {f k : Bk} (l : Bool) (hf : Byt f) : Same (urnd (rnd f k l) k l) f := by
  unfold urnd rnd
  have key : Same (ea usb (mv 3 (mv 1 (ea sb f)))) f := (ea_same usb (mv31 _)).trans (usb_ea hf)
  cases l with
  | true => exact (ea_same usb (mv_same 3 (xo_xo _ k))).trans key
  | false => exact (ea_same usb (mv_same 3 ((mx_same b2 (xo_xo _ k)).trans (mx21 (mv_byt 1 (ea_sb hf)))))).trans key
theorem rnd_urnd {f k : Bk} (l : Bool) (hf : Byt f) (hk : Byt k) : Same (rnd (urnd f k l) k l) f := by
  unfold urnd rnd
  have key : ∀ g, Byt g → Same (mv 1 (ea sb (ea usb (mv 3 g)))) g := fun g hg => (mv_same 1 (sb_ea (mv_byt 3 hg))).trans (mv13 _)
  cases l with
  | true => exact (xo_same (key _ (xo_byt hf hk)) (Same.refl k)).trans (xo_xo _ k)
  | false => exact (xo_same ((mx_same b1 (key _ (mx_byt b2_lt (xo_byt hf hk)))).trans (mx12 (xo_byt hf hk))) (Same.refl k)).trans (xo_xo _ k)

/-! ## round keys -/
/-- row r, the columns of the key after f -/
def nxc (f : Bk) (c r : Nat) : Nat → Nat
  | 0 => (f r ^^^ sb (f (12 + (r + 1) % 4))) ^^^ (if r = 0 then c else 0)
  | k + 1 => f (4 * (k + 1) + r) ^^^ nxc f c r k
def nx (f : Bk) (c : Nat) : Bk := fun i => nxc f c (i % 4) (i / 4)
def kys (f : Bk) : Nat → Bk
  | 0 => f
  | n + 1 => nx (kys f n) (gp 2 n)
theorem nxc_lt {f : Bk} (h : Byt f) {c : Nat} (hc : c < 256) {r : Nat} (hr : r < 4) (k : Nat) (hk : k < 4) : nxc f c r k < 256 := by
  induction k with
  | zero =>
    rw [nxc]
    refine xor8 (xor8 (h _ (by omega)) (sb_lt _ (h _ (by omega)))) ?_
    split <;> omega
  | succ k ih => rw [nxc]; exact xor8 (h _ (by omega)) (ih (by omega))
theorem nx_byt {f : Bk} (h : Byt f) {c : Nat} (hc : c < 256) : Byt (nx f c) := fun i hi => nxc_lt h hc (by omega) _ (by omega)
theorem nxc_same {f g : Bk} (h : Same f g) (c : Nat) {r : Nat} (hr : r < 4) (k : Nat) (hk : k < 4) : nxc f c r k = nxc g c r k := by
  induction k with
  | zero => rw [nxc, nxc, h _ (by omega), h _ (by omega)]
  | succ k ih => rw [nxc, nxc, ih (by omega), h _ (by omega)]
theorem nx_same {f g : Bk} (h : Same f g) (c : Nat) : Same (nx f c) (nx g c) := fun i hi => nxc_same h c (by omega) _ (by omega)
theorem kys_byt {f : Bk} (h : Byt f) (n : Nat) : Byt (kys f n) := by
  induction n with
  | zero => exact h
  | succ n ih => exact nx_byt ih (gp_lt (by decide) n)
theorem kys_same {f g : Bk} (h : Same f g) (n : Nat) : Same (kys f n) (kys g n) := by
  induction n with
  | zero => exact h
  | succ n ih => exact nx_same ih _

/-! ## encryption -/
def est (k b : Bk) : Nat → Bk
  | 0 => xo b (kys k 0)
  | n + 1 => rnd (est k b n) (kys k (n + 1)) (n + 1 == 10)
def enc (k b : Bk) : Bk := est k b 10
def dst_ (k b : Bk) : Nat → Bk
  | 0 => b
  | m + 1 => urnd (dst_ k b m) (kys k (10 - m)) (10 - m == 10)
def dec (k b : Bk) : Bk := xo (dst_ k b 10) (kys k 0)
theorem est_byt {k b : Bk} (hk : Byt k) (hb : Byt b) (n : Nat) : Byt (est k b n) := by
  induction n with
  | zero => exact xo_byt hb hk
  | succ n ih => exact rnd_byt _ ih (kys_byt hk _)
theorem enc_byt {k b : Bk} (hk : Byt k) (hb : Byt b) : Byt (enc k b) := est_byt hk hb 10
theorem dst_byt {k b : Bk} (hk : Byt k) (hb : Byt b) (n : Nat) : Byt (dst_ k b n) := by
  induction n with
  | zero => exact hb
  | succ n ih => exact urnd_byt _ ih (kys_byt hk _)
theorem dec_byt {k b : Bk} (hk : Byt k) (hb : Byt b) : Byt (dec k b) := xo_byt (dst_byt hk hb 10) hk
theorem est_same {k k' b b' : Bk} (h : Same k k') (h' : Same b b') (n : Nat) : Same (est k b n) (est k' b' n) := by
  induction n with
  | zero => exact xo_same h' h
  | succ n ih => exact rnd_same _ ih (kys_same h _)
theorem dst_same {k k' b b' : Bk} (h : Same k k') (h' : Same b b') (n : Nat) : Same (dst_ k b n) (dst_ k' b' n) := by
  induction n with
  | zero => exact h'
  | succ n ih => exact urnd_same _ ih (kys_same h _)
theorem enc_same {k k' b b' : Bk} (h : Same k k') (h' : Same b b') : Same (enc k b) (enc k' b') := est_same h h' 10
theorem dec_same {k k' b b' : Bk} (h : Same k k') (h' : Same b b') : Same (dec k b) (dec k' b') := xo_same (dst_same h h' 10) (kys_same h 0)
theorem dec_enc {k b : Bk} (hk : Byt k) (hb : Byt b) : Same (dec k (enc k b)) b := by
  have key : ∀ m ≤ 10, Same (dst_ k (enc k b) m) (est k b (10 - m)) := by
    intro m
    induction m with
    | zero => intro _; exact Same.refl _
    | succ m ih =>
      intro hm
      obtain ⟨j, hj⟩ : ∃ j, 10 - m = j + 1 := ⟨9 - m, by omega⟩
      have h1 := ih (by omega)
      rw [hj] at h1
      rw [show 10 - (m + 1) = j by omega, dst_, hj]
      exact (urnd_same _ h1 (Same.refl _)).trans (urnd_rnd _ (est_byt hk hb j))
  exact (xo_same (key 10 (Nat.le_refl _)) (Same.refl _)).trans (xo_xo b k)
theorem enc_dec {k b : Bk} (hk : Byt k) (hb : Byt b) : Same (enc k (dec k b)) b := by
  have key : ∀ n ≤ 10, Same (est k (dec k b) n) (dst_ k b (10 - n)) := by
    intro n
    induction n with
    | zero => intro _; exact xo_xo _ k
    | succ n ih =>
      intro hn
      obtain ⟨m, hm⟩ : ∃ m, 10 - n = m + 1 := ⟨9 - n, by omega⟩
      have h1 := ih (by omega)
      rw [hm] at h1
      rw [show 10 - (n + 1) = m by omega, est]
      have e : 10 - m = n + 1 := by omega
      rw [dst_, e] at h1
      exact (rnd_same _ h1 (Same.refl _)).trans (rnd_urnd _ (dst_byt hk hb m) (kys_byt hk _))
  exact key 10 (Nat.le_refl _)
end Go.Proofs.Ytdmfajcbbolfiaa
