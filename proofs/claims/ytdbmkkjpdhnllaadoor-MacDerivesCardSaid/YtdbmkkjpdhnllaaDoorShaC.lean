/-
  Package sha: the start, the constants, the bytes of a state, the padding.
-/
import Derived.Test.YtdbmkkjpdhnllaaDoorShaB
namespace Go.Proofs.YtdbmkkjpdhnllaaDoor
open Go.RowKit

set_option maxRecDepth 100000 in
set_option maxHeartbeats 1000000 in
theorem start_c (w : World) : Calls Tryd.prog 28 #[] w fun e w' => e = .returned (.agg (tabV .u32 8 st0.get)) ∧ Ext w w' := by
  go_enter Tryd.func28, Tryd.ntmps28
  go_wp2_with fail
  have hA : Arr (w.alloc (.cells (tabV .u32 8 st0.get) 49)) w.heap.size 49 .u32 8 st0.get := Arr.new _ _ _ _ _
  refine bodyPost_ret (v := .agg (tabV .u32 8 st0.get)) ?_ rfl ⟨rfl, Ext.alloc _ _⟩
  exact results_cell_row rfl _ _ _ _ _ _ _ rfl hA Tryd.underlying49 rfl (by rw [tabV_size]; exact size_st)
set_option maxRecDepth 100000 in
set_option maxHeartbeats 1000000 in
theorem digest_c (s : St) (w : World) : Calls Tryd.prog 32 #[.agg (tabV .u32 8 s.get)] w fun e w' => e = .returned (.agg (tabV .u8 32 (dig s))) ∧ Ext w w' := by
  go_enter Tryd.func32, Tryd.ntmps32
  go_wp2_with fail
  go_loopw [4] (fun i wr => ∃ n : Nat, n ≤ 32 ∧ i = .int .i64 n ∧ Arr wr w.heap.size 49 .u32 8 s.get ∧ Arr wr (w.heap.size + 1) 26 .u8 32 (fun i => if i < n then dig s i else 0) ∧ Ext w wr) (fun i _ => 32 - (intOf i).toNat)
  case atStart =>
    refine ⟨0, by omega, rfl, (two_new _ _ _).1, ?_, (Ext.alloc _ _).tr (Ext.alloc _ _)⟩
    unfold Arr
    refine (two_new _ _ _).2.trans ?_
    rw [tabV_congr (f' := fun _ => 0) (fun i _ => if_neg (by omega)), tabV_zero]
    rfl
  case round =>
    obtain ⟨n, hn, rfl, hS, hA, hx⟩ := hrel
    by_cases hlt : n < 32
    · have hc := hS.cell (i := n / 4) (by omega)
      have hcn := hA.cell (i := n) hlt
      have hf := hA.free n
      have HA := Lib.hid hA
      have HS := Lib.hid hS
      have HE := Lib.hid hx
      have m1 : 0 ≤ 24 - (n : Int) % 4 * 8 := by omega
      have m2 : (n : Int) % 4 * 8 ≤ 24 := by omega
      clear hA hS hx
      go_wp2_with fail
      go_roundw
      case rel =>
        refine ⟨n + 1, by omega, by go_num, HS.out.other (by omega) _ _, ?_, Below.setCell HE.out (by simp) _⟩
        refine Arr.to (f := fun i => if i < n then dig s i else 0) HA.out hlt ?_ (fun i _ hne => ?_)
        · rw [if_pos (by omega), dig, Int.natCast_emod, Int.natCast_ediv, Int.natCast_pow]
          rfl
        · by_cases hi : i < n
          · rw [if_pos hi, if_pos (by omega)]
          · rw [if_neg hi, if_neg (by omega)]
      case measure => simp [intOf]; omega
    · have en : n = 32 := by omega
      rw [en] at hA
      clear en
      have HA := Lib.hid (hA.congr (f' := dig s) (fun i hi => if_pos hi))
      have HE := Lib.hid hx
      clear hA hS hx
      go_wp2_with (first | (refine wpList_load_arr rfl 26 (.tmp 2) rfl (w.heap.size + 1) rfl 26 .u8 32 (dig s) _ HA.out Tryd.underlying26 size_dig ?_) | (refine wpList_store_arr rfl 26 (.tmp 2) (.tmp 20) rfl (w.heap.size + 1) .u8 32 (dig s) rfl rfl 26 _ HA.out size_dig tabV_size ?_; intro W3 hA3 hG3))
      refine bodyPost_ret (v := .agg (tabV .u8 32 (dig s))) ?_ rfl ⟨rfl, grown_new HE.out hG3 (fun g hg => by simp at hg; omega)⟩
      exact results_cell_row rfl _ _ _ _ _ _ _ rfl hA3 Tryd.underlying26 rfl (by rw [tabV_size]; exact size_dig)
theorem info_u8 : (Tryd.prog.info? 5).map (fun i => (i.zero, i.size, i.bytes)) = some (some (.int .u8 0), 1, 1) := by kernel_rfl

/-- the padding while it is written: i bytes of the size -/
def padAt (n z i : Nat) : List UInt8 := (List.range (1 + z + 8)).map fun j => if j = 0 then 128 else if z + 9 - i ≤ j then UInt8.ofNat (8 * n / 2 ^ (8 * (z + 8 - j))) else 0
theorem padAt_len (n z i : Nat) : (padAt n z i).length = 1 + z + 8 := by simp [padAt]
theorem padAt_zero (n z : Nat) : (List.replicate (1 + z + 8) (0 : UInt8)).set 0 128 = padAt n z 0 := by
  apply List.ext_getElem
  · simp [padAt]
  · intro j h1 h2
    simp only [padAt, List.getElem_map, List.getElem_range, List.getElem_set, List.getElem_replicate]
    rw [padAt_len] at h2
    by_cases e : j = 0
    · subst e; simp
    · rw [if_neg (by omega), if_neg e, if_neg (by omega)]
theorem padAt_step (n z i : Nat) (hi : i < 8) : (padAt n z i).set (z + 8 - i) (UInt8.ofNat (8 * n / 2 ^ (8 * i))) = padAt n z (i + 1) := by
  apply List.ext_getElem
  · simp [padAt]
  · intro j h1 h2
    simp only [padAt, List.getElem_map, List.getElem_range, List.getElem_set]
    rw [padAt_len] at h2
    by_cases e : z + 8 - i = j
    · subst e
      rw [if_pos rfl, if_neg (by omega), if_pos (by omega), show z + 8 - (z + 8 - i) = i by omega]
    · rw [if_neg e]
      by_cases e0 : j = 0
      · rw [if_pos e0, if_pos e0]
      · rw [if_neg e0, if_neg e0]
        by_cases h : z + 9 - i ≤ j
        · rw [if_pos h, if_pos (by omega)]
        · rw [if_neg h, if_neg (by omega)]
theorem padAt_all (n : Nat) : padAt n (zeros n) 8 = pad n := by
  apply List.ext_getElem
  · rw [padAt_len, pad_len]
  · intro j h1 h2
    rw [padAt_len] at h1
    simp only [padAt, List.getElem_map, List.getElem_range, pad]
    rcases j with _ | j
    · simp
    · rw [if_neg (by omega), List.getElem_cons_succ, List.getElem_append]
      simp only [List.length_replicate]
      by_cases h : j < zeros n
      · rw [if_neg (by omega), dif_pos h, List.getElem_replicate]
      · rw [if_pos (by omega), dif_neg h]
        simp only [size8, List.getElem_map, List.getElem_range]
        congr 4
        omega
theorem byte_int (x : Nat) (i : Nat) : (x : Int) / 2 ^ (8 * i) % 256 = ((UInt8.ofNat (x / 2 ^ (8 * i))).toNat : Int) := by
  rw [UInt8.toNat_ofNat', Int.natCast_emod, Int.natCast_ediv, Int.natCast_pow]
  rfl
theorem pad_start {w w1 : World} {z : Nat} (h : w1.ownsRow w.heap.size 5 1 (.slice (some ⟨w.heap.size, 0, none⟩) (1 + z + 8) (1 + z + 8)) (1 + z + 8) (madeCells (Value.int .u8 0).cells ((1 + z + 8) * 1)).toList) (hg : w.grownBy w1 none) :
    Hid (OwnB w1 5 w.heap.size (some ⟨w.heap.size, 0, none⟩) (1 + z + 8) (List.replicate (1 + z + 8) 0)) ∧ Hid (Ext w w1) ∧ w1.cell? ⟨w.heap.size, 0, none⟩ = some (.int .u8 0) ∧ w1.frozen? ⟨w.heap.size, 0, none⟩ = false := by
  have hB : OwnB w1 5 w.heap.size (some ⟨w.heap.size, 0, none⟩) (1 + z + 8) (List.replicate (1 + z + 8) 0) := by
    unfold OwnB
    rw [made_bytes] at h
    simpa using h
  have h0 := hB.cellAt (j := 0) (by simp)
  rw [List.getElem_replicate] at h0
  exact ⟨hB, grown_ext hg, h0, hB.freeAt 0⟩
theorem pad_neg (n : Nat) (hn : n ≤ 281474976710656) : ∃ X : Nat, IntKind.u64.wrap (-((n : Int) + 1 + 8)) = (X : Int) ∧ (X : Int) % 64 = (zeros n : Nat) := by
  refine ⟨18446744073709551616 - (n + 9), ?_, ?_⟩
  · rw [IntKind.wrap_u64]; omega
  · unfold zeros; omega
set_option maxRecDepth 100000 in
set_option maxHeartbeats 1000000 in
theorem padding_c (n : Nat) (hn : n ≤ 281474976710656) (w : World) :
    Calls Tryd.prog 31 #[.int .i64 n] w fun e w' => ∃ A c, e = .returned (.slice A (pad n).length c) ∧ OwnB w' 5 w.heap.size A c (pad n) ∧ Ext w w' := by
  obtain ⟨i0, hi0, hz0, hz1, hz2⟩ := info_parts info_u8
  obtain ⟨X, hX, hm⟩ := pad_neg n hn
  have hz := zeros_lt n
  obtain ⟨z, hzz⟩ : ∃ z, z = zeros n := ⟨_, rfl⟩
  rw [← hzz] at hm hz
  have HZ := Lib.hid hzz
  clear hzz
  go_enter Tryd.func31, Tryd.ntmps31
  go_wp2_with (at_make; refine wpList_make_full _ rfl (.tmp 15) (.tmp 15) 22 rfl w.heap.size 5 i0 (.int .u8 0) 1 Tryd.underlying22 hi0 hz0 hz1 .u64 .u64 _ _ (1 + z + 8) rfl rfl (by omega) (by omega) (by rw [hz2]; omega) (by unfold maxLen; omega) (Nat.le_refl _) ?_; intro w1 ho1 hg1; obtain ⟨hB, hx1, c0, f0⟩ := pad_start ho1 hg1; clear ho1 hg1)
  clear hX hm c0 f0
  go_loopw [22] (fun i wr => ∃ k : Nat, k ≤ 8 ∧ i = .int .i64 k ∧ OwnB wr 5 w.heap.size (some ⟨w.heap.size, 0, none⟩) (1 + z + 8) (padAt n z k) ∧ Ext w wr) (fun i _ => 8 - (intOf i).toNat)
  case atStart =>
    refine ⟨0, by omega, rfl, ?_, Below.setCell hx1.out (Nat.le_refl _) _⟩
    rw [← padAt_zero]
    exact hB.out.set_ 0 128
  case round =>
    obtain ⟨k, hk, rfl, hP, hx⟩ := hrel
    by_cases hlt : k < 8
    · have hl : z + 8 - k < (padAt n z k).length := by rw [padAt_len]; omega
      obtain ⟨v, hv⟩ : ∃ v : Int, v = ((padAt n z k)[z + 8 - k]).toNat := ⟨_, rfl⟩
      have hc := hP.cellAt hl
      rw [← hv] at hc
      clear hv
      have hf := hP.freeAt (z + 8 - k)
      have e1 : (1 : Int) + (z : Int) + 8 - 1 - (k : Int) = ((z + 8 - k : Nat) : Int) := by omega
      have HP := Lib.hid hP
      have HE := Lib.hid hx
      clear hP hx hl
      go_wp2_with fail
      go_roundw
      case rel =>
        refine ⟨k + 1, by omega, by go_num, ?_, Below.setCell HE.out (Nat.le_refl _) _⟩
        have h := HP.out.set_ (z + 8 - k) (UInt8.ofNat (8 * n / 2 ^ (8 * k)))
        rw [padAt_step n z k hlt, ← byte_int (8 * n) k] at h
        rw [show (8 * (n : Int)) = ((8 * n : Nat) : Int) by omega]
        exact h
      case measure => simp [intOf]; omega
    · obtain rfl : k = 8 := by omega
      have HP := Lib.hid hP
      have HE := Lib.hid hx
      clear hP hx
      go_wp2_with fail
      go_ret
      have h := HP.out
      rw [HZ.out, padAt_all] at h
      exact ⟨_, _, by rw [pad_len, HZ.out]; rfl, h, HE.out⟩
end Go.Proofs.YtdbmkkjpdhnllaaDoor
