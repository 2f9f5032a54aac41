/-
  Package crc: steps, the register, checksums of parts.
-/
import Derived.Test.YtpfognoabboheaaDoorCrcM
import Derived.Test.YtpfognoabboheaaDoorBase
import Derived.Test.YtpfognoabboheaaDoorRowsC
import Derived.Laws.BitsAllLaws
namespace Go.Proofs.YtpfognoabboheaaDoor
open Go.RowKit

theorem not32 (x : Nat) (h : x < 4294967296) : 4294967295 ^^^ x = 4294967295 - x := by
  have e : (BitVec.allOnes 32 ^^^ BitVec.ofNat 32 x).toNat = (~~~ (BitVec.ofNat 32 x)).toNat := by rw [BitVec.allOnes_xor]
  rw [BitVec.toNat_xor, BitVec.toNat_not, BitVec.toNat_ofNat, Nat.mod_eq_of_lt (by simpa using h), BitVec.toNat_allOnes] at e
  simpa using e
theorem st_int (x : Nat) (h : x < 4294967296) : bits .xor .u32 ((x : Int) / 2) (bits .and .u32 (x : Int) 1 * 2197175160 % 4294967296) = ((st x : Nat) : Int) := by
  have e0 : bits .and .u32 (x : Int) 1 = ((x % 2 : Nat) : Int) := by
    have := u32_and_nat x 1 h (by omega)
    rw [Nat.and_one_is_mod] at this
    exact this
  have e1 : (x : Int) / 2 = ((x / 2 : Nat) : Int) := by omega
  have e2 : ((x % 2 : Nat) : Int) * 2197175160 % 4294967296 = ((x % 2 * 2197175160 : Nat) : Int) := by omega
  rw [e0, e1, e2, u32_xor_nat _ _ (by omega) (by omega)]
  rfl

set_option maxHeartbeats 400000 in
theorem steps_c (x : Nat) (n : Int) (hx : x < 4294967296) (hn : -2147483647 ≤ n) (hn2 : n ≤ 2147483647) (w : World) :
    Calls Tryd.prog 29 #[.int .u32 x, .int .i64 n] w fun e w' => e = .returned (.int .u32 (sn n.toNat x)) ∧ w = w' := by
  go_enter Tryd.func29, Tryd.ntmps29
  go_wp2_with fail
  go_loop [0, 6] (fun y i => ∃ j : Nat, j ≤ n.toNat ∧ i = .int .i64 j ∧ y = .int .u32 (sn j x)) (fun _ i => n.toNat - (intOf i).toNat)
  case atStart => exact ⟨0, Nat.zero_le _, rfl, rfl⟩
  case round =>
    obtain ⟨j, hj, rfl, rfl⟩ := hrel
    obtain ⟨y, hy⟩ : ∃ y, y = sn j x := ⟨_, rfl⟩
    have hy32 : y < 4294967296 := hy ▸ sn_lt hx j
    have hs : st y = sn (j + 1) x := by rw [hy, sn_succ]
    rw [← hy]
    have HS := Lib.hid hs
    have HY := Lib.hid hy
    clear hs hy
    by_cases hlt : (j : Int) < n
    · go_wp2_with fail
      go_round
      case rel => exact ⟨j + 1, by omega, by go_num, by rw [← HS.out, st_int y hy32]⟩
      case measure => simp [intOf]; omega
    · have ej : j = n.toNat := by omega
      go_wp2_with fail
      go_ret
      refine ⟨?_, rfl⟩
      rw [← ej, ← HY.out]
      rfl

/-- a register in block g -/
def Reg (w : World) (g : Nat) (x : Nat) : Prop := w.heap[g]? = some (.cells #[.int .u32 (x : Int)] 62 (0, 0))
theorem xor_byte (x : Nat) (c : UInt8) (h : x < 4294967296) : bits .xor .u32 (x : Int) ((c.toNat : Int) % 4294967296) = ((x ^^^ c.toNat : Nat) : Int) := by
  have hc := UInt8.toNat_lt c
  rw [show (c.toNat : Int) % 4294967296 = (c.toNat : Int) by omega]
  exact u32_xor_nat x c.toNat h (by omega)

set_option maxHeartbeats 400000 in
theorem radd_c (g x : Nat) (hx : x < 4294967296) (A : Option Addr) (c : Nat) (l : List UInt8) (S : Nat → TypeId → Prop) (w : World) (hg : Reg w g x) (h : RB w S A l) (hl : l.length ≤ 140737488355328) :
    Calls Tryd.prog 30 #[.pointer (some ⟨g, 0, none⟩), .slice A l.length c] w fun e w' => e = .returned (.tuple #[]) ∧ Reg w' g (ad x l) ∧ w.grownBy w' (some g) := by
  have c0 : w.cell? ⟨g, 0, none⟩ = some (.int .u32 (x : Int)) := cells_of hg 0
  have f0 : w.frozen? ⟨g, 0, none⟩ = false := free_of hg 0
  have HG := Lib.hid hg
  have H := Lib.hid h
  clear hg h
  go_enter Tryd.func30, Tryd.ntmps30
  go_wp2_with fail
  go_loop [4, 12] (fun y i => ∃ j : Nat, j ≤ l.length ∧ i = .int .i64 j ∧ y = .int .u32 (ad x (l.take j))) (fun _ i => l.length - (intOf i).toNat)
  case atStart => exact ⟨0, Nat.zero_le _, rfl, rfl⟩
  case round =>
    obtain ⟨j, hj, rfl, rfl⟩ := hrel
    obtain ⟨y, hy⟩ : ∃ y, y = ad x (l.take j) := ⟨_, rfl⟩
    have hy32 : y < 4294967296 := hy ▸ ad_lt _ hx
    rw [← hy]
    have HY := Lib.hid hy
    clear hy
    by_cases hlt : j < l.length
    · obtain ⟨g', off', rfl, hc'⟩ := H.out.cell hlt
      have hs : sn 8 (y ^^^ (l[j]).toNat) = ad x (l.take (j + 1)) := by rw [HY.out, ad_take hlt]
      have e1 := xor_byte y l[j] hy32
      have hz : y ^^^ (l[j]).toNat < 4294967296 := xor_lt32 hy32 (by have := UInt8.toNat_lt l[j]; omega)
      obtain ⟨z, ez⟩ : ∃ z, z = y ^^^ (l[j]).toNat := ⟨_, rfl⟩
      rw [← ez] at e1 hs hz
      have HS := Lib.hid hs
      clear hs ez
      go_wp2_with fail
      refine (steps_c z 8 hz (by omega) (by omega) _).mono ?_
      rintro e w' ⟨rfl, rfl⟩
      go_wp2_with fail
      go_round
      case rel => exact ⟨j + 1, by omega, by go_num, by rw [← HS.out]⟩
      case measure => simp [intOf]; omega
    · have ej : l.take j = l := List.take_of_length_le (by omega)
      have HE := Lib.hid ej
      clear ej
      go_wp2_with fail
      go_end0
      refine ⟨rfl, ?_, grown_set _ rfl _⟩
      unfold Reg
      rw [set_of HG.out 0 _, HY.out, HE.out]
      rfl

theorem not_u32 (x : Nat) (h : x < 4294967296) : bits .xor .u32 4294967295 (x : Int) = ((4294967295 - x : Nat) : Int) := by
  rw [← not32 x h]
  exact u32_xor_nat 4294967295 x (by omega) h
theorem not_max (x : Nat) (h : x < 4294967296) : bits .xor .u32 IntKind.u32.max (x : Int) = ((4294967295 - x : Nat) : Int) := by
  rw [← not_u32 x h]
  rfl
theorem made_func (fn : Fn) (first cap : Array Value) (w : World) : (Instr.makeFunc fn first cap).run Tryd.prog w = .ok (.func fn first cap) w := rfl

set_option maxHeartbeats 400000 in
theorem cont_c (s : Nat) (hs : s < 4294967296) (A : Option Addr) (c : Nat) (ls : List (List UInt8)) (S T : Nat → TypeId → Prop) (w : World) (h : RBs w S T A ls) (hl : (fla ls).length ≤ 140737488355328) (hn : ls.length ≤ 140737488355328) :
    Calls Tryd.prog 17 #[.int .u32 s, .slice A ls.length c] w fun e w' => e = .returned (.int .u32 (up s (fla ls))) ∧ Ext w w' := by
  have hmf := made_func
  have e0 := not_max s hs
  obtain ⟨z, hz⟩ : ∃ z, z = 4294967295 - s := ⟨_, rfl⟩
  have hz32 : z < 4294967296 := by omega
  rw [← hz] at e0
  have HZ := Lib.hid hz
  have H := Lib.hid h
  have HL := Lib.hid hl
  clear h hz hl
  go_enter Tryd.func17, Tryd.ntmps17
  go_wp2_with fail
  have hr0 : Reg (w.alloc (.cells #[.int .u32 z] 62)) w.heap.size z := new_of _ _
  have hx0 : Ext w (w.alloc (.cells #[.int .u32 z] 62)) := Ext.alloc _ _
  go_loopw [8, 14] (fun _ i wr => ∃ k : Nat, k ≤ ls.length ∧ i = .int .i64 k ∧ Reg wr w.heap.size (ad z (flt ls k)) ∧ Ext w wr) (fun _ i _ => ls.length - (intOf i).toNat)
  case atStart => exact ⟨0, Nat.zero_le _, rfl, by rw [flt_zero]; exact hr0, hx0⟩
  case round =>
    obtain ⟨k, hk, rfl, hr, hx⟩ := hrel
    by_cases hlt : k < ls.length
    · obtain ⟨g, off, B, d, rfl, hc, hb⟩ := (H.out.ext hx).cell hlt
      have h3 : (flt ls k).length + (ls[k]).length ≤ 140737488355328 := Nat.le_trans (flt_more ls k hlt) HL.out
      have hf : ad (ad z (flt ls k)) ls[k] = ad z (flt ls (k + 1)) := by rw [← flt_step ls k hlt, ad_append]
      have HR := Lib.hid hr
      have HX := Lib.hid hx
      have HF := Lib.hid hf
      have HB := Lib.hid hb
      clear hr hx hf hb
      go_wp2_with fail
      refine (radd_c w.heap.size (ad z (flt ls k)) (ad_lt _ hz32) B d ls[k] T _ HR.out HB.out (by omega)).mono ?_
      rintro e w' ⟨rfl, hr', hg'⟩
      rw [HF.out] at hr'
      go_wp2_with fail
      go_roundw
      case rel => exact ⟨k + 1, by omega, by go_num, hr', grown_new HX.out hg' (fun g hg => by simp at hg; omega)⟩
      case measure => simp [intOf]; omega
    · have ek : flt ls k = fla ls := flt_all ls (by omega)
      rw [ek] at hr
      have c1 : wr.cell? ⟨w.heap.size, 0, none⟩ = some (.int .u32 (ad z (fla ls) : Nat)) := cells_of hr 0
      have e1 := not_max (ad z (fla ls)) (ad_lt _ hz32)
      have HR := Lib.hid hr
      have HX := Lib.hid hx
      clear hr hx ek
      go_wp2_with fail
      go_ret
      refine ⟨?_, HX.out⟩
      unfold up
      rw [← HZ.out]
      rfl
end Go.Proofs.YtpfognoabboheaaDoor
