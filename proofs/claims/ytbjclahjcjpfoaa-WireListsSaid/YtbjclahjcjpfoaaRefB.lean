/-
  Package tollref01 (the reference), writing: PutNumber, PutString.
-/
import Derived.Test.YtbjclahjcjpfoaaRefA
namespace Go.Proofs.Ytbjclahjcjpfoaa
open Go.RowKit

theorem nb_cons (k : Nat) : ∀ x, nb (k + 1) x = UInt8.ofNat (x / 256 ^ k % 256) :: nb k x := by
  induction k with
  | zero => intro x; simp [nb]
  | succ k ih =>
    intro x
    rw [nb, ih (x / 256)]
    rw [List.cons_append, Nat.div_div_eq_div_mul, ← Nat.pow_succ', nb]
theorem byte_mod (x : Nat) : (x : Int) % 256 = ((UInt8.ofNat (x % 256)).toNat : Int) := by
  have e : (UInt8.ofNat (x % 256)).toNat = x % 256 := by rw [UInt8.toNat_ofNat']; omega
  rw [e]
  omega
theorem div_pow (x j : Nat) : x / 256 ^ j / 256 = x / 256 ^ (j + 1) := by rw [Nat.div_div_eq_div_mul, Nat.pow_succ]

set_option maxHeartbeats 1000000 in
theorem rput_c (k x : Nat) (w : World) (hk : 1 ≤ k ∧ k ≤ 8) (hx : x < 256 ^ k) (hx64 : x < 18446744073709551616) :
    Calls Try.prog 22 #[.int .i64 k, .int .u64 x] w fun e w' => ∃ A c, e = .returned (.tuple #[.slice A (nb k x).length c, .bool true]) ∧ OwnB w' 5 w.heap.size A c (nb k x) ∧ Ext w w' := by
  obtain ⟨i0, hi0, hz0, hz1, hz2⟩ := info_parts info_u8
  obtain ⟨h1, h2⟩ := hk
  have HX := Lib.hid hx
  have HX64 := Lib.hid hx64
  clear hx hx64
  go_enter Try.func22, Try.ntmps22
  go_wp2_with fail
  go_loopw [1, 6, 7] (fun q v i wr => ∃ (j : Nat) (B : Option Addr) (d : Nat), j ≤ k ∧ i = .int .i64 j ∧ q = .int .u64 (x / 256 ^ j : Nat) ∧ v = .slice B (nb j x).length d ∧ OwnB wr 5 w.heap.size B d (nb j x) ∧ Ext w wr) (fun _ _ i _ => k - (intOf i).toNat)
  case atStart => exact ⟨0, none, 0, Nat.zero_le _, rfl, by simp, rfl, OwnB.nil _ _ _, Ext.refl _⟩
  case round =>
    obtain ⟨j, B, d, hj, rfl, rfl, rfl, hor, hxr⟩ := hrel
    by_cases hlt : j < k
    · have hq : x / 256 ^ j < 18446744073709551616 := Nat.lt_of_le_of_lt (Nat.div_le_self _ _) HX64.out
      have hd := Lib.hid (div_pow x j)
      have hn := Lib.hid (nb_cons j x)
      have hnl := nb_length j x
      obtain ⟨q, hq0⟩ : ∃ q, q = x / 256 ^ j := ⟨_, rfl⟩
      rw [← hq0] at hq hd hn ⊢
      have HQ := Lib.hid hq0
      clear hq0
      have hown : OwnB (wr.alloc (.cells #[.int .u8 ((q : Int) % 256)] 5)) 5 w.heap.size (some ⟨wr.heap.size, 0, none⟩) 1 [UInt8.ofNat (q % 256)] :=
        OwnB.lit [UInt8.ofNat (q % 256)] _ (by rw [byte_mod]; rfl) hxr.size (by simp [maxLen])
      have hsrc := hor.rb.ext (Ext.alloc wr (.cells #[.int .u8 ((q : Int) % 256)] 5))
      have hbound : [UInt8.ofNat (q % 256)].length + (nb j x).length ≤ 140737488355328 := by rw [hnl]; simp; omega
      have hsz : w.heap.size ≤ (wr.alloc (.cells #[.int .u8 ((q : Int) % 256)] 5)).heap.size := by have := hxr.size; simp; omega
      have HNL := Lib.hid hnl
      clear hnl hor
      go_wp2_with (at_builtin; refine wpList_append_bytes _ rfl _ _ 22 rfl w.heap.size 5 i0 Try.underlying22 hi0 hz0 hz1 hz2 (some ⟨wr.heap.size, 0, none⟩) 1 [UInt8.ofNat (q % 256)] rfl hown _ B d (nb j x) rfl hsrc hbound hsz ?_; intro A' c' w2 ho2 hg2 hb2)
      have hxn : Ext w w2 := grown_new (hxr.tr (Ext.alloc _ _)) hg2 hown.ge
      have e : [UInt8.ofNat (q % 256)] ++ nb j x = nb (j + 1) x := hn.out.symm
      rw [e] at ho2
      go_roundw
      case rel => exact ⟨j + 1, A', c', by omega, by go_num, by rw [← hd.out]; go_num, by rw [← e]; rfl, ho2, hxn⟩
      case measure => simp [intOf]; omega
    · obtain rfl : j = k := by omega
      have h0 : x / 256 ^ j = 0 := Nat.div_eq_of_lt HX.out
      rw [h0]
      go_wp2_with fail
      go_ret2
      exact ⟨B, d, rfl, hor, hxr⟩

set_option maxHeartbeats 1000000 in
theorem rput_no (k : Int) (x : Nat) (w : World) (hb : -9223372036854775808 ≤ k ∧ k ≤ 9223372036854775807) (hx64 : x < 18446744073709551616) (h : ¬ (1 ≤ k ∧ k ≤ 8) ∨ 256 ^ k.toNat ≤ x) :
    Calls Try.prog 22 #[.int .i64 k, .int .u64 x] w fun e w' => e = .returned (.tuple #[.slice none 0 0, .bool false]) ∧ Ext w w' := by
  obtain ⟨hb1, hb2⟩ := hb
  by_cases hk : 1 ≤ k ∧ k ≤ 8
  · have hx : 256 ^ k.toNat ≤ x := by rcases h with h | h; exact absurd hk h; exact h
    clear h
    obtain ⟨h1, h2⟩ := hk
    obtain ⟨k, rfl⟩ := Int.eq_ofNat_of_zero_le (by omega : 0 ≤ k)
    rw [Int.toNat_natCast] at hx
    obtain ⟨i0, hi0, hz0, hz1, hz2⟩ := info_parts info_u8
    have HX := Lib.hid hx
    have HX64 := Lib.hid hx64
    clear hx hx64
    go_enter Try.func22, Try.ntmps22
    go_wp2_with fail
    go_loopw [1, 6, 7] (fun q v i wr => ∃ (j : Nat) (B : Option Addr) (d : Nat), j ≤ k ∧ i = .int .i64 j ∧ q = .int .u64 (x / 256 ^ j : Nat) ∧ v = .slice B (nb j x).length d ∧ OwnB wr 5 w.heap.size B d (nb j x) ∧ Ext w wr) (fun _ _ i _ => k - (intOf i).toNat)
    case atStart => exact ⟨0, none, 0, Nat.zero_le _, rfl, by simp, rfl, OwnB.nil _ _ _, Ext.refl _⟩
    case round =>
      obtain ⟨j, B, d, hj, rfl, rfl, rfl, hor, hxr⟩ := hrel
      by_cases hlt : j < k
      · have hq : x / 256 ^ j < 18446744073709551616 := Nat.lt_of_le_of_lt (Nat.div_le_self _ _) HX64.out
        have hd := Lib.hid (div_pow x j)
        have hn := Lib.hid (nb_cons j x)
        have hnl := nb_length j x
        obtain ⟨q, hq0⟩ : ∃ q, q = x / 256 ^ j := ⟨_, rfl⟩
        rw [← hq0] at hq hd hn ⊢
        have HQ := Lib.hid hq0
        clear hq0
        have hown : OwnB (wr.alloc (.cells #[.int .u8 ((q : Int) % 256)] 5)) 5 w.heap.size (some ⟨wr.heap.size, 0, none⟩) 1 [UInt8.ofNat (q % 256)] :=
          OwnB.lit [UInt8.ofNat (q % 256)] _ (by rw [byte_mod]; rfl) hxr.size (by simp [maxLen])
        have hsrc := hor.rb.ext (Ext.alloc wr (.cells #[.int .u8 ((q : Int) % 256)] 5))
        have hbound : [UInt8.ofNat (q % 256)].length + (nb j x).length ≤ 140737488355328 := by rw [hnl]; simp; omega
        have hsz : w.heap.size ≤ (wr.alloc (.cells #[.int .u8 ((q : Int) % 256)] 5)).heap.size := by have := hxr.size; simp; omega
        have HNL := Lib.hid hnl
        clear hnl hor
        go_wp2_with (at_builtin; refine wpList_append_bytes _ rfl _ _ 22 rfl w.heap.size 5 i0 Try.underlying22 hi0 hz0 hz1 hz2 (some ⟨wr.heap.size, 0, none⟩) 1 [UInt8.ofNat (q % 256)] rfl hown _ B d (nb j x) rfl hsrc hbound hsz ?_; intro A' c' w2 ho2 hg2 hb2)
        have hxn : Ext w w2 := grown_new (hxr.tr (Ext.alloc _ _)) hg2 hown.ge
        have e : [UInt8.ofNat (q % 256)] ++ nb j x = nb (j + 1) x := hn.out.symm
        rw [e] at ho2
        go_roundw
        case rel => exact ⟨j + 1, A', c', by omega, by go_num, by rw [← hd.out]; go_num, by rw [← e]; rfl, ho2, hxn⟩
        case measure => simp [intOf]; omega
      · obtain rfl : j = k := by omega
        have h0 : 0 < x / 256 ^ j := Nat.div_pos HX.out (Nat.pow_pos (by omega))
        obtain ⟨q, hq0⟩ : ∃ q, q = x / 256 ^ j := ⟨_, rfl⟩
        rw [← hq0] at h0 ⊢
        have HQ := Lib.hid hq0
        clear hq0
        go_wp2_with fail
        go_ret2
        exact ⟨rfl, hxr⟩
  · have hk' : k < 1 ∨ (1 ≤ k ∧ 8 < k) := by omega
    clear h hk
    rcases hk' with h1 | ⟨h1, h2⟩
    · go_enter Try.func22, Try.ntmps22
      go_wp2_with fail
      go_ret2
      exact ⟨rfl, Ext.refl _⟩
    · go_enter Try.func22, Try.ntmps22
      go_wp2_with fail
      go_ret2
      exact ⟨rfl, Ext.refl _⟩

set_option maxHeartbeats 400000 in
theorem rputs_c (k : Nat) (A : Option Addr) (c : Nat) (l : List UInt8) (S : Nat → TypeId → Prop) (w : World) (h : RB w S A l) (hk : 1 ≤ k ∧ k ≤ 8) (hx : l.length < 256 ^ k) (hl : l.length ≤ 140737488000000) :
    Calls Try.prog 23 #[.int .i64 k, .slice A l.length c] w fun e w' => ∃ A' c', e = .returned (.tuple #[.slice A' (nb k l.length ++ l).length c', .bool true]) ∧ OwnB w' 5 w.heap.size A' c' (nb k l.length ++ l) ∧ Ext w w' := by
  obtain ⟨i0, hi0, hz0, hz1, hz2⟩ := info_parts info_u8
  have H := Lib.hid h
  have HX := Lib.hid hx
  have HK := Lib.hid hk
  clear h hx hk
  go_enter Try.func23, Try.ntmps23
  go_wp2_with fail
  refine (rput_c k l.length _ HK.out HX.out (by omega)).mono ?_
  rintro e w1 ⟨B, d, rfl, hB, hx1⟩
  have hbound : (nb k l.length).length + l.length ≤ 140737488355328 := by rw [nb_length]; have := HK.out.2; omega
  have hsrc := H.out.ext hx1
  have hsz := hx1.size
  go_wp2_with (at_builtin; refine wpList_append_bytes _ rfl _ _ 22 rfl w.heap.size 5 i0 Try.underlying22 hi0 hz0 hz1 hz2 B d (nb k l.length) rfl hB S A c l rfl hsrc hbound hsz ?_; intro A' c' w2 ho2 hg2 hb2)
  go_ret2
  exact ⟨A', c', by rw [List.length_append]; rfl, ho2, grown_new hx1 hg2 hB.ge⟩
set_option maxHeartbeats 400000 in
theorem rputs_no (k : Int) (A : Option Addr) (c : Nat) (l : List UInt8) (w : World) (hb : -9223372036854775808 ≤ k ∧ k ≤ 9223372036854775807) (h : ¬ (1 ≤ k ∧ k ≤ 8) ∨ 256 ^ k.toNat ≤ l.length) (hl : l.length ≤ 140737488355328) :
    Calls Try.prog 23 #[.int .i64 k, .slice A l.length c] w fun e w' => e = .returned (.tuple #[.slice none 0 0, .bool false]) ∧ Ext w w' := by
  have H := Lib.hid h
  have HB := Lib.hid hb
  clear h hb
  go_enter Try.func23, Try.ntmps23
  go_wp2_with fail
  refine (rput_no k l.length _ HB.out (by omega) H.out).mono ?_
  rintro e w1 ⟨rfl, hx⟩
  go_wp2_with fail
  go_ret2
  exact ⟨rfl, hx⟩

end Go.Proofs.Ytbjclahjcjpfoaa
