/-
  Package wire: joined parts.
-/
import Derived.Test.YtgbdckiojjmncaaRowsC
import Derived.Test.YtgbdckiojjmncaaBase
namespace Go.Proofs.Ytgbdckiojjmncaa
open Go.RowKit

/-! ## parts are joined -/
/-- the number of bytes in the first k parts -/
def flen (ls : List (List UInt8)) (k : Nat) : Nat := (ls.take k).flatten.length
theorem flen_step (ls : List (List UInt8)) (k : Nat) (h : k < ls.length) : flen ls k + (ls[k]).length = flen ls (k + 1) := by
  unfold flen
  rw [flat_take ls k h, List.length_append]
theorem flen_le (ls : List (List UInt8)) (k : Nat) : flen ls k ≤ ls.flatten.length := flat_len_le ls k
theorem flen_all (ls : List (List UInt8)) : flen ls ls.length = ls.flatten.length := by rw [flen, List.take_length]
theorem flt_len (ls : List (List UInt8)) (k : Nat) : (flt ls k).length = flen ls k := rfl
theorem wflt_all (ls : List (List UInt8)) : flt ls ls.length = ls.flatten := by rw [flt, List.take_length]

set_option maxHeartbeats 1000000 in
theorem join_c (A : Option Addr) (c : Nat) (ls : List (List UInt8)) (S T : Nat → TypeId → Prop) (w : World) (h : RBs w S T A ls) (hl : ls.flatten.length ≤ 140737488355328) (hn : ls.length ≤ 140737488355328) :
    Calls Try.prog 29 #[.slice A ls.length c] w fun e w' => ∃ A' c', e = .returned (.slice A' ls.flatten.length c') ∧ OwnB w' 5 w.heap.size A' c' ls.flatten ∧ Ext w w' := by
  obtain ⟨i0, hi0, hz0, hz1, hz2⟩ := info_parts info_u8
  have H := Lib.hid h
  clear h
  have hle : ∀ k, flen ls k ≤ 140737488355328 := fun k => Nat.le_trans (flen_le ls k) hl
  have HLE := Lib.hid hle
  clear hl hle
  go_enter Try.func29, Try.ntmps29
  go_wp2
  go_loop [3, 5, 11] (fun n _ i => ∃ k : Nat, k ≤ ls.length ∧ i = .int .i64 k ∧ n = .int .i64 (flen ls k : Nat)) (fun _ _ i => ls.length - (intOf i).toNat)
  case atStart => exact ⟨0, Nat.zero_le _, rfl, rfl⟩
  case round =>
    obtain ⟨k, hk, rfl, rfl⟩ := hrel
    by_cases hlt : k < ls.length
    · obtain ⟨g, off, B, d, rfl, hc, _⟩ := H.out.cell hlt
      have h2 := flen_step ls k hlt
      have h1 := HLE.out (k + 1)
      have h3 : flen ls k + (ls[k]).length ≤ 140737488355328 := by omega
      have HF := Lib.hid h2
      clear h1 h2
      go_wp2_with fail
      go_round
      case rel => exact ⟨k + 1, by omega, by go_num, by rw [← HF.out]; go_num⟩
      case measure => simp [intOf]; omega
    · obtain rfl : k = ls.length := by omega
      have h1 := HLE.out ls.length
      go_wp2_with (at_make; refine wpList_make_own _ rfl _ _ 28 rfl w.heap.size 5 i0 (.int .u8 0) 1 Try.underlying28 hi0 hz0 hz1 .i64 .i64 _ (flen ls ls.length) rfl rfl rfl (by rw [hz2]; omega) (by unfold maxLen; omega) (Nat.le_refl _) ?_; intro w1 ho1 hg1)
      have hx1 : Ext w w1 := grown_ext hg1
      have ho : OwnB w1 5 w.heap.size (some ⟨w.heap.size, 0, none⟩) (flen ls ls.length) (flt ls 0) := ho1
      have HO := Lib.hid ho
      clear ho1 hg1 ho
      go_loopw [6, 8, 24] (fun v _ i wr => ∃ (k : Nat) (B : Option Addr) (d : Nat), k ≤ ls.length ∧ i = .int .i64 k ∧ v = .slice B (flt ls k).length d ∧ OwnB wr 5 w.heap.size B d (flt ls k) ∧ Ext w wr) (fun _ _ i _ => ls.length - (intOf i).toNat)
      case atStart => exact ⟨0, _, _, Nat.zero_le _, rfl, rfl, HO.out, hx1⟩
      case round =>
        obtain ⟨k, B, d, hk, rfl, rfl, hor, hxr⟩ := hrel
        by_cases hlt : k < ls.length
        · obtain ⟨g, off, C, d', rfl, hc, hr⟩ := (H.out.ext hxr).cell hlt
          have h2 := flen_step ls k hlt
          have h1 := HLE.out (k + 1)
          have h3 : (flt ls k).length + (ls[k]).length ≤ 140737488355328 := by rw [flt_len]; omega
          have HF := Lib.hid (flt_step ls k hlt)
          have hsz := hxr.size
          clear h1 h2
          go_wp2_with (at_builtin; refine wpList_append_bytes _ rfl _ _ 28 rfl w.heap.size 5 i0 Try.underlying28 hi0 hz0 hz1 hz2 B d (flt ls k) rfl hor T C d' ls[k] rfl hr h3 hsz ?_; intro A' c' w2 ho2 hg2 hb2)
          have hxn := grown_new hxr hg2 hor.ge
          rw [HF.out] at ho2
          go_roundw
          case rel => exact ⟨k + 1, A', c', by omega, by go_num, by rw [← HF.out, List.length_append], ho2, hxn⟩
          case measure => simp [intOf]; omega
        · obtain rfl : k = ls.length := by omega
          go_wp2_with fail
          go_ret
          exact ⟨B, d, by rw [← wflt_all]; rfl, by rw [← wflt_all]; exact hor, hxr⟩

end Go.Proofs.Ytgbdckiojjmncaa
