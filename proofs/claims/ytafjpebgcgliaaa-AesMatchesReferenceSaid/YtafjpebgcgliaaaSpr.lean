/-
  Bytes that are made from a number; blocks of them.
-/
import Derived.Test.YtafjpebgcgliaaaAesE
namespace Go.Proofs.Ytafjpebgcgliaaa
open Go.RowKit
set_option linter.unusedVariables false
set_option linter.unusedSimpArgs false

theorem info_u8' : (Try.prog.info? 5).map (fun i => (i.zero, i.size, i.bytes)) = some (some (.int .u8 0), 1, 1) := by kernel_rfl
def byt (l : List UInt8) (i : Nat) : Nat := (l.getD i 0).toNat
theorem byt_lt (l : List UInt8) (i : Nat) : byt l i < 256 := UInt8.toNat_lt _
def spx (x : Nat) : Nat → Nat
  | 0 => x
  | n + 1 => (spx x n * 6364136223846793005 + 1442695040888963407) % 18446744073709551616
def spr (x : Nat) : Nat → List UInt8
  | 0 => []
  | n + 1 => spr x n ++ [UInt8.ofNat (spx x (n + 1) / 8589934592)]
theorem spr_len (x n : Nat) : (spr x n).length = n := by
  induction n with
  | zero => rw [spr]; rfl
  | succ n ih => rw [spr, List.length_append, ih]; rfl
theorem spx_step (x n : Nat) : ∃ m : Nat, IntKind.u64.wrap (((spx x n : Nat) : Int) * 6364136223846793005) = (m : Int) ∧ IntKind.u64.wrap ((m : Int) + 1442695040888963407) = ((spx x (n + 1) : Nat) : Int) := by
  obtain ⟨m, hm⟩ : ∃ m, m = spx x n * 6364136223846793005 % 18446744073709551616 := ⟨_, rfl⟩
  refine ⟨m, ?_, ?_⟩
  · rw [IntKind.wrap_u64, hm, Int.natCast_emod, Int.natCast_mul]
    rfl
  · rw [IntKind.wrap_u64, spx, ← Nat.mod_add_mod, ← hm, Int.natCast_emod, Int.natCast_add]
    rfl
theorem spr_byte (y : Nat) : (y : Int) / 8589934592 % 256 = ((UInt8.ofNat (y / 8589934592)).toNat : Int) := by
  rw [UInt8.toNat_ofNat', Int.natCast_emod, Int.natCast_ediv]
  rfl
theorem spr_succ (x n : Nat) : spr x (n + 1) = spr x n ++ [UInt8.ofNat (spx x (n + 1) / 8589934592)] := by rw [spr]
theorem spx_lt (x n : Nat) (hx : x < 18446744073709551616) : spx x n < 18446744073709551616 := by
  cases n with
  | zero => rw [spx]; exact hx
  | succ n => rw [spx]; exact Nat.mod_lt _ (by decide)

set_option maxRecDepth 100000 in
set_option maxHeartbeats 1000000 in
theorem spread_c (x n : Nat) (hx : x < 18446744073709551616) (hn : n ≤ 1000) (w : World) :
    Calls Try.prog 19 #[.int .u64 x, .int .i64 n] w fun e w' => ∃ A c, e = .returned (.slice A n c) ∧ OwnB w' 5 w.heap.size A c (spr x n) ∧ Ext w w' := by
  obtain ⟨i0, hi0, hz0, hz1, hz2⟩ := info_parts info_u8'
  have HX := Lib.hid hx
  clear hx
  go_enter Try.func19, Try.ntmps19
  go_wp2_with fail
  go_loopw [5, 6, 7] (fun v y i wr => ∃ (k : Nat) (B : Option Addr) (d : Nat), k ≤ n ∧ i = .int .i64 k ∧ y = .int .u64 (spx x k : Nat) ∧ v = .slice B k d ∧ OwnB wr 5 w.heap.size B d (spr x k) ∧ Ext w wr) (fun _ _ i _ => n - (intOf i).toNat)
  case atStart => exact ⟨0, none, 0, Nat.zero_le _, rfl, by rw [spx], rfl, by rw [spr]; exact OwnB.nil _ _ _, Ext.refl _⟩
  case round =>
    obtain ⟨k, B, d, hk, rfl, rfl, rfl, hor, hxr⟩ := hrel
    by_cases hlt : k < n
    · obtain ⟨y, hy⟩ : ∃ y, y = spx x k := ⟨_, rfl⟩
      obtain ⟨z, hz⟩ : ∃ z, z = spx x (k + 1) := ⟨_, rfl⟩
      obtain ⟨b, hb⟩ : ∃ b : UInt8, b = UInt8.ofNat (z / 8589934592) := ⟨_, rfl⟩
      obtain ⟨m, e1, e2⟩ := spx_step x k
      rw [← hy] at e1
      rw [← hz] at e2
      have e3 : (z : Int) / 8589934592 % 256 = (b.toNat : Int) := by rw [hb]; exact spr_byte z
      have hzl : z < 18446744073709551616 := by rw [hz]; exact spx_lt x _ HX.out
      have hs : spr x (k + 1) = spr x k ++ [b] := by rw [spr_succ, ← hz, ← hb]
      have hl := spr_len x k
      rw [← hy]
      have hsz := hxr.size
      have hor' := hor.ext (Ext.alloc wr (.cells #[.int .u8 (b.toNat : Int)] 5))
      have hlit := RB.lit wr [b] #[.int .u8 (b.toNat : Int)] 5 rfl
      have hb1 : (spr x k).length + ([b] : List UInt8).length ≤ 140737488355328 := by rw [hl]; simp; omega
      have HL := Lib.hid hl
      have HS := Lib.hid hs
      have HZ := Lib.hid hz
      clear hl hs hb hy hz
      go_wp2_with (at_builtin; refine wpList_append_bytes _ rfl _ _ 40 rfl w.heap.size 5 i0 Try.underlying40 hi0 hz0 hz1 hz2 B d (spr x k) (by rw [HL.out]; rfl) hor' _ (some ⟨wr.heap.size, 0, none⟩) 1 [b] rfl hlit hb1 (by simp; omega) ?_; intro A' c' w2 ho2 hg2 hb2)
      have hxn := grown_new (hxr.tr (Ext.alloc _ _)) hg2 hor'.ge
      rw [← HS.out] at ho2
      go_roundw
      case rel => exact ⟨k + 1, A', c', by omega, by go_num, by rw [← HZ.out], by rw [HL.out], ho2, hxn⟩
      case measure => simp [intOf]; omega
    · have ek : k = n := by omega
      have hor' := hor
      rw [ek] at hor'
      have HO := Lib.hid hor'
      have HX2 := Lib.hid hxr
      have EK := Lib.hid ek
      clear hor hor' hxr ek
      go_wp2_with fail
      go_ret
      exact ⟨B, d, by rw [← EK.out]; rfl, HO.out, HX2.out⟩
set_option maxRecDepth 100000 in
set_option maxHeartbeats 1000000 in
theorem bytes16_c (seed : Nat) (hs : seed < 18446744073709551616) (w : World) : Calls Try.prog 10 #[.int .u64 seed] w fun e w' => e = .returned (.agg (tabV .u8 16 (byt (spr seed 16)))) ∧ Ext w w' := by
  have HS := Lib.hid hs
  have HZ := Lib.hid (Arr.new w 22 .u8 16 (fun _ => 0))
  clear hs
  go_enter Try.func10, Try.ntmps10
  go_wp2_with fail
  refine (spread_c seed 16 HS.out (by decide) _).mono ?_
  rintro e w2 ⟨A, c, rfl, ho2, hx2⟩
  have hr := ho2.rb
  have hln := spr_len seed 16
  obtain ⟨g, off, cs, t, fr, rfl, _⟩ := hr (by omega)
  have hrange := rangeAt_rb hr (n := 16) (by omega) (byt (spr seed 16)) (fun i _ => rfl) (by decide)
  have HRG := Lib.hid hrange
  have HB2 := Lib.hid (HZ.out.ext hx2)
  have HX2 := Lib.hid ((Ext.alloc _ _).tr hx2)
  have harr := fun (a : Option Addr) (c : Nat) => run_arrayAt (P := Try.prog) (t := 22) Try.underlying22 a 16 c (by decide)
  clear hr hrange ho2 hx2 hln HZ
  go_wp2_with (first
    | refine wpList_load_part rfl 22 (.tmp 5) rfl g off rfl .u8 16 (byt (spr seed 16)) _ HRG.out Try.underlying22 size_bk ?_
    | (refine wpList_store_arr' rfl rfl 22 (.tmp 2) (.tmp 6) rfl w.heap.size .u8 16 (byt (spr seed 16)) rfl rfl 22 _ HB2.out size_bk tabV_size ?_; intro w5 hA5 hG5))
  refine bodyPost_ret (v := .agg (tabV .u8 16 (byt (spr seed 16)))) ?_ rfl ⟨rfl, grown_new HX2.out hG5 (fun g hg => by simp at hg; omega)⟩
  exact results_cell_row rfl _ _ _ _ _ _ _ rfl hA5 Try.underlying22 rfl (by rw [tabV_size]; exact size_bk)
end Go.Proofs.Ytafjpebgcgliaaa
