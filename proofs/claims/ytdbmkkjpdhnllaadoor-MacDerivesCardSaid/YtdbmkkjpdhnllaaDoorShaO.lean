/-
  The padding of the reference.
-/
import Derived.Test.YtdbmkkjpdhnllaaDoorShaE
import Derived.Test.YtdbmkkjpdhnllaaDoorBytC
namespace Go.Proofs.YtdbmkkjpdhnllaaDoor
open Go.RowKit


theorem pad_zero_at (n k : Nat) (h : k < zeros n) : (pad n)[1 + k]? = some 0 := by
  rw [pad, Nat.add_comm, List.getElem?_cons_succ, List.getElem?_append_left (by simpa using h), List.getElem?_replicate, if_pos h]
theorem pad_size_at (n j : Nat) (h : j < 8) : (pad n)[1 + zeros n + j]? = some (UInt8.ofNat (8 * n / 2 ^ (8 * (7 - j)))) := by
  rw [pad, show 1 + zeros n + j = (zeros n + j) + 1 by omega, List.getElem?_cons_succ, List.getElem?_append_right (by simp), List.length_replicate, show zeros n + j - zeros n = j by omega]
  simp [size8, h]
theorem take_snoc_some {α : Type} {l : List α} {m : Nat} {x : α} (h : l[m]? = some x) : l.take m ++ [x] = l.take (m + 1) := by
  obtain ⟨hl, e⟩ := List.getElem?_eq_some_iff.1 h
  rw [List.take_succ_eq_append_getElem hl, e]
theorem zeros_least (n k : Nat) (h : k ≤ zeros n) : (n + 1 + k + 8) % 64 = 0 ↔ k = zeros n := by unfold zeros at *; omega

set_option maxRecDepth 100000 in
set_option maxHeartbeats 2000000 in
theorem rpad_c (n : Nat) (hn : n ≤ 281474976710656) (w : World) :
    Calls Tryd.prog 24 #[.int .i64 n] w fun e w' => ∃ A c, e = .returned (.slice A (pad n).length c) ∧ OwnB w' 5 w.heap.size A c (pad n) ∧ Ext w w' := by
  obtain ⟨i0, hi0, hz0, hz1, hz2⟩ := info_parts info_u8
  have hpl := pad_len n
  have hzl := zeros_lt n
  have HPL := Lib.hid hpl
  clear hpl
  go_enter Tryd.func24, Tryd.ntmps24
  go_wp2_with fail
  go_loopw [3] (fun v wr => ∃ (k : Nat) (B : Option Addr) (d : Nat), k ≤ zeros n ∧ v = .slice B (1 + k) d ∧ OwnB wr 5 w.heap.size B d ((pad n).take (1 + k)) ∧ Ext w wr) (fun v _ => 100 - lenOf v)
  case atStart => exact ⟨0, _, 1, Nat.zero_le _, rfl, OwnB.lit (w := w) (E := 5) (base := w.heap.size) [128] #[.int .u8 128] rfl (Nat.le_refl _) (by simp [maxLen]), Ext.alloc _ _⟩
  case round =>
    obtain ⟨k, B, d, hk, rfl, hor, hxr⟩ := hrel
    have hl : ((pad n).take (1 + k)).length = 1 + k := by rw [List.length_take]; have := HPL.out; omega
    by_cases hlt : k < zeros n
    · have hne : ¬ ((n + 1 + k + 8) % 64 = 0) := fun h => by have := (zeros_least n k hk).1 h; omega
      have t1 : (((n : Int) + (1 + (k : Int)) + 8) % 64 != 0) = true := bne_t (by omega)
      have t2 : (((n : Int) + ((1 + k : Nat) : Int) + 8) % 64 != 0) = true := bne_t (by omega)
      have hsz := hxr.size
      have hor' := hor.ext (Ext.alloc wr (.cells #[.int .u8 0] 5))
      have hlit := RB.lit wr [0] #[.int .u8 0] 5 rfl
      have HS := Lib.hid (take_snoc_some (pad_zero_at n k hlt))
      have hb1 : ((pad n).take (1 + k)).length + ([0] : List UInt8).length ≤ 140737488355328 := by rw [hl]; simp; omega
      have HL := Lib.hid hl
      clear hne hl
      go_wp2_with (at_builtin; refine wpList_append_bytes _ rfl _ _ 22 rfl w.heap.size 5 i0 Tryd.underlying22 hi0 hz0 hz1 hz2 B d ((pad n).take (1 + k)) (by rw [HL.out]; rfl) hor' _ (some ⟨wr.heap.size, 0, none⟩) 1 [0] rfl hlit hb1 (by simp; omega) ?_; intro A' c' w2 ho2 hg2 hb2)
      have hxn := grown_new (hxr.tr (Ext.alloc _ _)) hg2 hor'.ge
      rw [HS.out] at ho2
      go_roundw
      case rel => exact ⟨k + 1, A', c', by omega, by rw [show min (1 + k) (pad n).length + 1 = 1 + (k + 1) by have := HPL.out; omega], ho2, hxn⟩
      case measure => have := HPL.out; simp [lenOf]; omega
    · have hkz : k = zeros n := by omega
      have hze := zeros_fill n
      have t1 : (((n : Int) + (1 + (k : Int)) + 8) % 64 != 0) = false := bne_f (by omega)
      have t2 : (((n : Int) + ((1 + k : Nat) : Int) + 8) % 64 != 0) = false := bne_f (by omega)
      have HKZ := Lib.hid hkz
      have HO := Lib.hid hor
      have HX := Lib.hid hxr
      clear hze hkz hor hxr hl
      go_wp2_with fail
      go_loopw [3, 5] (fun v i wr => ∃ (p : Nat) (B : Option Addr) (d : Nat), p ≤ 8 ∧ i = .int .i64 ((p : Int) - 1) ∧ v = .slice B (1 + k + (8 - p)) d ∧ OwnB wr 5 w.heap.size B d ((pad n).take (1 + k + (8 - p))) ∧ Ext w wr) (fun _ i _ => (intOf i + 1).toNat)
      case atStart => exact ⟨8, _, _, Nat.le_refl _, rfl, rfl, HO.out, HX.out⟩
      case round =>
        obtain ⟨p, B, d, hp, rfl, rfl, hor, hxr⟩ := hrel
        have hl : ((pad n).take (1 + k + (8 - p))).length = 1 + k + (8 - p) := by rw [List.length_take]; have := HPL.out; have := HKZ.out; omega
        by_cases hlt : 0 < p
        · obtain ⟨m, rfl⟩ : ∃ m, p = m + 1 := ⟨p - 1, by omega⟩
          rw [show (((m + 1 : Nat) : Int) - 1) = (m : Int) by omega]
          obtain ⟨v, hv⟩ : ∃ v : UInt8, v = UInt8.ofNat (8 * n / 2 ^ (8 * m)) := ⟨_, rfl⟩
          have hvi : (n : Int) * 8 / 2 ^ (8 * m) % 256 = (v.toNat : Int) := by
            have h := byte_int (8 * n) m
            rw [← hv] at h
            rw [← h, show (n : Int) * 8 = ((8 * n : Nat) : Int) by omega]
          have hat : (pad n)[1 + k + (8 - (m + 1))]? = some v := by
            have h := pad_size_at n (8 - (m + 1)) (by omega)
            rw [show 7 - (8 - (m + 1)) = m by omega, ← hv, ← HKZ.out] at h
            exact h
          have hsz := hxr.size
          have hor' := hor.ext (Ext.alloc wr (.cells #[.int .u8 (v.toNat : Int)] 5))
          have hlit := RB.lit wr [v] #[.int .u8 (v.toNat : Int)] 5 rfl
          have HS := Lib.hid (take_snoc_some hat)
          have hb1 : ((pad n).take (1 + k + (8 - (m + 1)))).length + ([v] : List UInt8).length ≤ 140737488355328 := by rw [hl]; simp; omega
          have HL := Lib.hid hl
          clear hl hv hat
          go_wp2_with (at_builtin; refine wpList_append_bytes _ rfl _ _ 22 rfl w.heap.size 5 i0 Tryd.underlying22 hi0 hz0 hz1 hz2 B d ((pad n).take (1 + k + (8 - (m + 1)))) (by rw [HL.out]; rfl) hor' _ (some ⟨wr.heap.size, 0, none⟩) 1 [v] rfl hlit hb1 (by simp; omega) ?_; intro A' c' w2 ho2 hg2 hb2)
          have hxn := grown_new (hxr.tr (Ext.alloc _ _)) hg2 hor'.ge
          rw [HS.out, show 1 + k + (8 - (m + 1)) + 1 = 1 + k + (8 - m) by omega] at ho2
          go_roundw
          case rel => exact ⟨m, A', c', by omega, rfl, by congr 1; have := HPL.out; have := HKZ.out; omega, ho2, hxn⟩
          case measure => simp [intOf]
        · obtain rfl : p = 0 := by omega
          have e : (pad n).take (1 + k + (8 - 0)) = pad n := List.take_of_length_le (by have := HPL.out; have := HKZ.out; omega)
          rw [e] at hor hl
          have HO2 := Lib.hid hor
          have HX2 := Lib.hid hxr
          have HL := Lib.hid hl
          clear hor hxr hl e
          go_wp2_with fail
          go_ret
          exact ⟨B, d, by rw [HL.out]; rfl, HO2.out, HX2.out⟩

end Go.Proofs.YtdbmkkjpdhnllaaDoor
