/-
  WirePuts: what the law's call does.
-/
import Derived.Test.YtbjclahjcjpfoaaRefB
import Derived.Test.YtbjclahjcjpfoaaAwake01
import Derived.Test.YtbjclahjcjpfoaaPartsA
namespace Go.Proofs.Ytbjclahjcjpfoaa
open Go.RowKit

/-- a number that fits, in k bytes -/
def pn (k : Int) (x : Nat) : List UInt8 × Bool := if 1 ≤ k ∧ k ≤ 8 ∧ x < 256 ^ k.toNat then (nb k.toNat x, true) else ([], false)
/-- a string whose length fits -/
def ps (k : Int) (l : List UInt8) : List UInt8 × Bool := if 1 ≤ k ∧ k ≤ 8 ∧ l.length < 256 ^ k.toNat then (nb k.toNat l.length ++ l, true) else ([], false)
theorem pn_len (k : Int) (x : Nat) : (pn k x).1.length ≤ 8 := by
  unfold pn
  split
  · simp only [nb_length]; omega
  · simp
theorem ps_len (k : Int) (l : List UInt8) : (ps k l).1.length ≤ 8 + l.length := by
  unfold ps
  split
  · simp only [List.length_append, nb_length]; omega
  · simp

theorem not_fit {k : Int} {x : Nat} (h : ¬ (1 ≤ k ∧ k ≤ 8 ∧ x < 256 ^ k.toNat)) : ¬ (1 ≤ k ∧ k ≤ 8) ∨ 256 ^ k.toNat ≤ x := by
  by_cases h1 : 1 ≤ k ∧ k ≤ 8
  · refine .inr (Nat.le_of_not_lt fun h2 => h ⟨h1.1, h1.2, h2⟩)
  · exact .inl h1

theorem put_any (k : Int) (x : Nat) (w : World) (hb : -9223372036854775808 ≤ k ∧ k ≤ 9223372036854775807) (hx64 : x < 18446744073709551616) :
    Calls Try.prog 20 #[.int .i64 k, .int .u64 x] w fun e w' => ∃ A c, e = .returned (.tuple #[.slice A (pn k x).1.length c, .bool (pn k x).2]) ∧ OwnB w' 5 w.heap.size A c (pn k x).1 ∧ Ext w w' := by
  unfold pn
  by_cases h : 1 ≤ k ∧ k ≤ 8 ∧ x < 256 ^ k.toNat
  · rw [if_pos h]
    obtain ⟨m, rfl⟩ := Int.eq_ofNat_of_zero_le (by omega : 0 ≤ k)
    rw [Int.toNat_natCast] at h ⊢
    exact put_c m x w ⟨by omega, by omega⟩ h.2.2 hx64
  · rw [if_neg h]
    exact (put_no k x w hb (not_fit h)).mono fun e w' ⟨he, hw⟩ => ⟨none, 0, he, OwnB.nil _ _ _, by rw [← hw]; exact Ext.refl _⟩
theorem rput_any (k : Int) (x : Nat) (w : World) (hb : -9223372036854775808 ≤ k ∧ k ≤ 9223372036854775807) (hx64 : x < 18446744073709551616) :
    Calls Try.prog 22 #[.int .i64 k, .int .u64 x] w fun e w' => ∃ A c, e = .returned (.tuple #[.slice A (pn k x).1.length c, .bool (pn k x).2]) ∧ OwnB w' 5 w.heap.size A c (pn k x).1 ∧ Ext w w' := by
  unfold pn
  by_cases h : 1 ≤ k ∧ k ≤ 8 ∧ x < 256 ^ k.toNat
  · rw [if_pos h]
    obtain ⟨m, rfl⟩ := Int.eq_ofNat_of_zero_le (by omega : 0 ≤ k)
    rw [Int.toNat_natCast] at h ⊢
    exact rput_c m x w ⟨by omega, by omega⟩ h.2.2 hx64
  · rw [if_neg h]
    exact (rput_no k x w hb hx64 (not_fit h)).mono fun e w' ⟨he, hw⟩ => ⟨none, 0, he, OwnB.nil _ _ _, hw⟩
theorem puts_any (k : Int) (A : Option Addr) (c : Nat) (l : List UInt8) (S : Nat → TypeId → Prop) (w : World) (hr : RB w S A l) (hb : -9223372036854775808 ≤ k ∧ k ≤ 9223372036854775807) (hl : l.length ≤ 140737488000000) :
    Calls Try.prog 21 #[.int .i64 k, .slice A l.length c] w fun e w' => ∃ A' c', e = .returned (.tuple #[.slice A' (ps k l).1.length c', .bool (ps k l).2]) ∧ OwnB w' 5 w.heap.size A' c' (ps k l).1 ∧ Ext w w' := by
  unfold ps
  by_cases h : 1 ≤ k ∧ k ≤ 8 ∧ l.length < 256 ^ k.toNat
  · rw [if_pos h]
    obtain ⟨m, rfl⟩ := Int.eq_ofNat_of_zero_le (by omega : 0 ≤ k)
    rw [Int.toNat_natCast] at h ⊢
    exact puts_c m A c l S w hr ⟨by omega, by omega⟩ h.2.2 hl
  · rw [if_neg h]
    exact (puts_no k A c l w hb (not_fit h) (by omega)).mono fun e w' ⟨he, hw⟩ => ⟨none, 0, he, OwnB.nil _ _ _, by rw [← hw]; exact Ext.refl _⟩
theorem rputs_any (k : Int) (A : Option Addr) (c : Nat) (l : List UInt8) (S : Nat → TypeId → Prop) (w : World) (hr : RB w S A l) (hb : -9223372036854775808 ≤ k ∧ k ≤ 9223372036854775807) (hl : l.length ≤ 140737488000000) :
    Calls Try.prog 23 #[.int .i64 k, .slice A l.length c] w fun e w' => ∃ A' c', e = .returned (.tuple #[.slice A' (ps k l).1.length c', .bool (ps k l).2]) ∧ OwnB w' 5 w.heap.size A' c' (ps k l).1 ∧ Ext w w' := by
  unfold ps
  by_cases h : 1 ≤ k ∧ k ≤ 8 ∧ l.length < 256 ^ k.toNat
  · rw [if_pos h]
    obtain ⟨m, rfl⟩ := Int.eq_ofNat_of_zero_le (by omega : 0 ≤ k)
    rw [Int.toNat_natCast] at h ⊢
    exact rputs_c m A c l S w hr ⟨by omega, by omega⟩ h.2.2 hl
  · rw [if_neg h]
    exact (rputs_no k A c l w hb (not_fit h) (by omega)).mono fun e w' ⟨he, hw⟩ => ⟨none, 0, he, OwnB.nil _ _ _, hw⟩

set_option maxHeartbeats 1000000 in
theorem wputs_out (k x : Int) (A : Option Addr) (c : Nat) (b : List UInt8) (w : World) (hl : b.length ≤ 9223372036854775807) (h : 1000 < b.length) :
    Calls Try.prog 4 #[.int .i64 k, .int .u64 x, .slice A b.length c] w fun e w' => e = .returned (.bool true) ∧ Ext w w' := by
  go_enter Try.func4, Try.ntmps4
  go_wp2_with fail
  refine (awake_c _).mono ?_
  rintro e w1 ⟨rfl, hx1⟩
  go_wp2_with fail
  refine (awake_c _).mono ?_
  rintro e w2 ⟨rfl, hx2⟩
  go_wp2_with fail
  go_ret
  exact ⟨rfl, hx1.tr hx2⟩

set_option maxHeartbeats 1000000 in
theorem wputs_in (k : Int) (x : Nat) (A : Option Addr) (c : Nat) (b : List UInt8) (S : Nat → TypeId → Prop) (w : World) (h : RB w S A b) (hb : -9223372036854775808 ≤ k ∧ k ≤ 9223372036854775807) (hx64 : x < 18446744073709551616) (hl : b.length ≤ 1000) :
    Calls Try.prog 4 #[.int .i64 k, .int .u64 x, .slice A b.length c] w fun e w' => e = .returned (.bool true) ∧ Ext w w' := by
  have H := Lib.hid h
  have HB := Lib.hid hb
  have HX := Lib.hid hx64
  have hml := pn_len k x
  have hsl := ps_len k b
  obtain ⟨m, hm⟩ : ∃ m, m = (pn k x).1 := ⟨_, rfl⟩
  obtain ⟨p, hp⟩ : ∃ p, p = (pn k x).2 := ⟨_, rfl⟩
  obtain ⟨s, hs⟩ : ∃ s, s = (ps k b).1 := ⟨_, rfl⟩
  obtain ⟨q, hq⟩ : ∃ q, q = (ps k b).2 := ⟨_, rfl⟩
  rw [← hm] at hml
  rw [← hs] at hsl
  have HM := Lib.hid hm
  have HP := Lib.hid hp
  have HS := Lib.hid hs
  have HQ := Lib.hid hq
  clear h hb hx64 hm hp hs hq
  go_enter Try.func4, Try.ntmps4
  go_wp2_with fail
  refine (awake_c _).mono ?_
  rintro e w1 ⟨rfl, hx1⟩
  go_wp2_with fail
  refine (put_any k x _ HB.out HX.out).mono ?_
  rintro e w2 ⟨A2, c2, rfl, ho2, hx2⟩
  rw [← HM.out] at ho2 ⊢
  rw [← HP.out]
  have HO2 := Lib.hid ho2
  clear ho2
  go_wp2_with fail
  refine (puts_any k A c b S _ (H.out.ext (hx1.tr hx2)) HB.out (by omega)).mono ?_
  rintro e w3 ⟨A3, c3, rfl, ho3, hx3⟩
  rw [← HS.out] at ho3 ⊢
  rw [← HQ.out]
  have HO3 := Lib.hid ho3
  clear ho3
  go_wp2_with fail
  refine (rput_any k x _ HB.out HX.out).mono ?_
  rintro e w4 ⟨A4, c4, rfl, ho4, hx4⟩
  rw [← HM.out] at ho4 ⊢
  rw [← HP.out]
  have HO4 := Lib.hid ho4
  clear ho4
  go_wp2_with fail
  refine (rputs_any k A c b S _ (H.out.ext (((hx1.tr hx2).tr hx3).tr hx4)) HB.out (by omega)).mono ?_
  rintro e w5 ⟨A5, c5, rfl, ho5, hx5⟩
  rw [← HS.out] at ho5 ⊢
  rw [← HQ.out]
  have HO5 := Lib.hid ho5
  clear ho5
  go_wp2_with fail
  refine (same_x A2 A4 m m c2 c4 _ _ _ (HO2.out.rb.ext ((hx3.tr hx4).tr hx5)) (HO4.out.rb.ext hx5) (by omega) rfl).mono ?_
  rintro e w6 ⟨rfl, hx6⟩
  have hpp : (p != p) = false := by simp
  have hqq : (q != q) = false := by simp
  go_wp2_with fail
  refine (same_x A3 A5 s s c3 c5 _ _ _ (HO3.out.rb.ext ((hx4.tr hx5).tr hx6)) (HO5.out.rb.ext hx6) (by omega) rfl).mono ?_
  rintro e w7 ⟨rfl, hx7⟩
  go_wp2_with fail
  have hrows := Lib.hid (two_rows w7 22 A2 A3 c2 c3 m s _ _ (HO2.out.rb.ext ((((hx3.tr hx4).tr hx5).tr hx6).tr hx7)) (HO3.out.rb.ext (((hx4.tr hx5).tr hx6).tr hx7)))
  have e2 : [m, s].flatten = m ++ s := by simp
  have hj := join_c _ 2 [m, s] _ _ _ hrows.out (by rw [e2, List.length_append]; omega) (by simp)
  rw [e2] at hj
  have HJ := Lib.hid hj
  clear hj e2
  refine HJ.out.mono ?_
  rintro e w8 ⟨A8, c8, rfl, ho8, hx8⟩
  obtain ⟨t, ht⟩ : ∃ t, t = m ++ s := ⟨_, rfl⟩
  have htl : t.length ≤ 2000 := by rw [ht, List.length_append]; omega
  rw [← ht] at ho8 ⊢
  have HT := Lib.hid ht
  have HO8 := Lib.hid ho8
  clear ho8 ht
  go_wp2_with fail
  refine (new_c A8 c8 t _ _ HO8.out.rb (by omega)).mono ?_
  rintro e w9 ⟨g, R, rfl, hg9, hr9, hx9⟩
  have HR9 := Lib.hid hr9
  clear hr9
  have x09 : Ext w w9 := ((((((((hx1.tr hx2).tr hx3).tr hx4).tr hx5).tr hx6).tr hx7).tr (Ext.alloc _ _)).tr hx8).tr hx9
  have hge : w.heap.size ≤ g := by have := (((((((hx1.tr hx2).tr hx3).tr hx4).tr hx5).tr hx6).tr hx7).tr (Ext.alloc _ _)).tr hx8; have := this.size; omega
  cases p with
  | false =>
    go_wp2_with fail
    go_ret
    exact ⟨rfl, x09⟩
  | true =>
    cases q with
    | false =>
      go_wp2_with fail
      go_ret
      exact ⟨rfl, x09⟩
    | true =>
      have hk : 1 ≤ k ∧ k ≤ 8 ∧ x < 256 ^ k.toNat := by
        have := HP.out
        unfold pn at this
        split at this
        · assumption
        · cases this
      have hk2 : 1 ≤ k ∧ k ≤ 8 ∧ b.length < 256 ^ k.toNat := by
        have := HQ.out
        unfold ps at this
        split at this
        · assumption
        · cases this
      have em : m = nb k.toNat x := by rw [HM.out, pn, if_pos hk]
      have es : s = nb k.toNat b.length ++ b := by rw [HS.out, ps, if_pos hk2]
      obtain ⟨n, rfl⟩ := Int.eq_ofNat_of_zero_le (by omega : 0 ≤ k)
      rw [Int.toNat_natCast] at em es hk hk2
      have et : t = nb n x ++ (nb n b.length ++ b) := by rw [HT.out, em, es]
      have t1 : t.take n = nb n x := by rw [et, List.take_left' (nb_length _ _)]
      have t2 : t.drop n = nb n b.length ++ b := by rw [et, List.drop_left' (nb_length _ _)]
      have t3 : (t.drop n).take n = nb n b.length := by rw [t2, List.take_left' (nb_length _ _)]
      have t4 : (t.drop n).drop n = b := by rw [t2, List.drop_left' (nb_length _ _)]
      have b1 : be (t.take n) = x := by rw [t1, be_nb _ _ hk.2.2]
      have b2 : be ((t.drop n).take n) = b.length := by rw [t3, be_nb _ _ hk2.2.2]
      have hlt : t.length = n + (n + b.length) := by rw [et]; simp only [List.length_append, nb_length]
      have hld : (t.drop n).length = n + b.length := by rw [t2]; simp only [List.length_append, nb_length]
      have hn8 : 1 ≤ n ∧ n ≤ 8 := ⟨by omega, by omega⟩
      have hnum := num_c n w9 HR9.out (NoRd.u8 _ _) hn8 (by omega)
      rw [b1] at hnum
      have HNUM := Lib.hid hnum
      have hstr := fun W h => str_c (S := fun k t => w8.heap.size ≤ k ∧ t = 5 ∧ R = some k) (g := g) (l := t.drop n) n W h (NoRd.u8 _ _) (by omega) hn8 (by omega) (by omega)
      rw [b2] at hstr
      simp only [t4, List.take_length, List.drop_length] at hstr
      have HSTR := fun W h => Lib.hid (hstr W h)
      clear hnum hstr em es et t1 t2 t3 t4 b1 b2 hlt hld hk hk2
      go_wp2_with fail
      refine HNUM.out.mono ?_
      rintro e w10 ⟨rfl, hr10, hg10⟩
      have HR10 := Lib.hid hr10
      clear hr10
      go_wp2_with fail
      refine (HSTR _ HR10.out).out.mono ?_
      rintro e w11 ⟨A11, c11, rfl, ho11, hr11, hg11⟩
      have HR11 := Lib.hid hr11
      have HO11 := Lib.hid ho11
      clear hr11 ho11
      have x10 := grown_new x09 hg10 (fun k hk => by simp at hk; omega)
      have x11 := grown_new x10 hg11 (fun k hk => by simp at hk; omega)
      go_wp2_with fail
      refine (same_x A11 A b b c11 c _ _ _ HO11.out.rb (H.out.ext x11) (by omega) rfl).mono ?_
      rintro e w12 ⟨rfl, hx12⟩
      go_wp2_with fail
      refine (done_c _ (HR11.out.ext hx12)).mono ?_
      rintro e w' ⟨rfl, rfl⟩
      go_wp2_with fail
      go_ret
      exact ⟨rfl, x11.tr hx12⟩

theorem wirePuts_walk (a0 a1 : Int) (a2 : Option Addr) (len2 cap2 : Nat) (z2 : List Int) (w : World) (w0 : (Lit.int .i64 a0).wf = true) (w1 : (Lit.int .u64 a1).wf = true) (w2 : IsRow .u8 w a2 len2 cap2 z2) :
    Calls Try.prog 4 #[.int .i64 a0, .int .u64 a1, .slice a2 len2 cap2] w fun e w' => e = .returned (.bool true) ∧ Below w.heap.size w w' := by
  obtain ⟨b, rfl, hl, hm, hb⟩ := row_bytes w2
  have b0 := bd_i64 w0
  have b1 := bd_u64 w1
  unfold maxLen at hm
  obtain ⟨x, rfl⟩ := Int.eq_ofNat_of_zero_le b1.1
  by_cases h : 1000 < b.length
  · exact wputs_out a0 x a2 cap2 b w (by omega) h
  · exact wputs_in a0 x a2 cap2 b _ w hb b0 (by omega) (by omega)
end Go.Proofs.Ytbjclahjcjpfoaa
