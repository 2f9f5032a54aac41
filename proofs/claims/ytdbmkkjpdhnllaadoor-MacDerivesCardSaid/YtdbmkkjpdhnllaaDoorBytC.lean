/-
  Package tollref01 (the reference), what layers 4 and above use: Same, Join, Spread.
-/
import Derived.Test.YtdbmkkjpdhnllaaDoorRowsC
import Derived.Laws.BitsAllLaws
namespace Go.Proofs.YtdbmkkjpdhnllaaDoor
open Go.RowKit

theorem info_u8' : (Tryd.prog.info? 5).map (fun i => (i.zero, i.size, i.bytes)) = some (some (.int .u8 0), 1, 1) := by kernel_rfl

set_option maxHeartbeats 400000 in
theorem same_c (A B : Option Addr) (a b : List UInt8) (ca cb : Nat) (S T : Nat → TypeId → Prop) (w : World) (ha : RB w S A a) (hb : RB w T B b) (hla : a.length ≤ 9223372036854775807) :
    Calls Tryd.prog 13 #[.slice A a.length ca, .slice B b.length cb] w fun e w' => e = .returned (.bool (decide (a = b))) ∧ ∃ n, w' = w.drewN n := by
  by_cases hlen : a.length = b.length
  · have H := Lib.hid hlen
    have hb0 := bne_f (a := (a.length : Int)) (b := (b.length : Int)) (by omega)
    have hlen' : b.length ≤ a.length ∧ a.length ≤ b.length := by omega
    obtain ⟨h1, h2⟩ := hlen'
    clear hlen
    go_enter Tryd.func13, Tryd.ntmps13
    go_wp2
    go_loopw [5] (fun i wr => ∃ k : Nat, k ≤ a.length ∧ i = .int .i64 k ∧ a.take k = b.take k ∧ ∃ n, wr = w.drewN n) (fun i _ => a.length - (intOf i).toNat)
    case atStart => exact ⟨0, Nat.zero_le _, rfl, by simp, 0, rfl⟩
    case round =>
      obtain ⟨k, hk, rfl, ht, n, rfl⟩ := hrel
      have HT := Lib.hid ht
      clear ht
      by_cases hlt : k < a.length
      · have hlt' : k < b.length := by omega
        have HS := Lib.hid (take_succ_eq HT.out hlt hlt')
        obtain ⟨g, off, rfl, hc⟩ := ha.cell hlt
        obtain ⟨g', off', rfl, hc'⟩ := hb.cell hlt'
        by_cases he : a[k] = b[k]
        · have he' := bne_f (a := (a[k].toNat : Int)) (b := (b[k].toNat : Int)) (by rw [he])
          have HE := Lib.hid he
          clear he
          go_wp2_with fail
          go_quiet (fail)
          go_wp2
          go_roundw
          case rel => exact ⟨k + 1, by omega, by go_num, HS.out.2 HE.out, _, rfl⟩
          case measure => simp [intOf]; omega
        · have he' := bne_t (u8_ne he)
          have HE := Lib.hid he
          clear he
          go_wp2_with fail
          go_quiet (fail)
          go_wp2
          go_ret
          exact ⟨by rw [decide_eq_false (fun h => HE.out (by subst h; rfl))]; rfl, n + _, by rw [← World.drewN_drewN]⟩
      · go_wp2
        go_ret
        refine ⟨?_, _, rfl⟩
        have h3 := HT.out
        rw [List.take_of_length_le (by omega), List.take_of_length_le (by omega)] at h3
        rw [decide_eq_true h3]; rfl
  · have hb0 := bne_t (a := (a.length : Int)) (b := (b.length : Int)) (by omega)
    go_enter Tryd.func13, Tryd.ntmps13
    go_wp2
    go_ret
    exact ⟨by rw [decide_eq_false (fun h => hlen (by rw [h]))]; rfl, 0, rfl⟩
theorem same_x (A B : Option Addr) (a b : List UInt8) (ca cb : Nat) (S T : Nat → TypeId → Prop) (w : World) (ha : RB w S A a) (hb : RB w T B b) (hla : a.length ≤ 9223372036854775807) (h : a = b) :
    Calls Tryd.prog 13 #[.slice A a.length ca, .slice B b.length cb] w fun e w' => e = .returned (.bool true) ∧ Ext w w' :=
  (same_c A B a b ca cb S T w ha hb hla).mono fun _ _ ⟨he, n, hw⟩ => ⟨by rw [he, decide_eq_true h], by rw [hw]; exact Ext.drewN _ _⟩

set_option maxHeartbeats 1000000 in
theorem rjoin_c (A : Option Addr) (c : Nat) (ls : List (List UInt8)) (S T : Nat → TypeId → Prop) (w : World) (h : RBs w S T A ls) (hl : (fla ls).length ≤ 140737488355328) (hn : ls.length ≤ 140737488355328) :
    Calls Tryd.prog 9 #[.slice A ls.length c] w fun e w' => ∃ A' c', e = .returned (.slice A' (fla ls).length c') ∧ OwnB w' 5 w.heap.size A' c' (fla ls) ∧ Ext w w' := by
  obtain ⟨i0, hi0, hz0, hz1, hz2⟩ := info_parts info_u8'
  have H := Lib.hid h
  have HL := Lib.hid hl
  clear h hl
  go_enter Tryd.func9, Tryd.ntmps9
  go_wp2
  go_loopw [3, 4] (fun v i wr => ∃ (k : Nat) (B : Option Addr) (d : Nat), k ≤ ls.length ∧ i = .int .i64 k ∧ v = .slice B (flt ls k).length d ∧ OwnB wr 5 w.heap.size B d (flt ls k) ∧ Ext w wr) (fun _ i _ => ls.length - (intOf i).toNat)
  case atStart => exact ⟨0, none, 0, Nat.zero_le _, rfl, by rw [flt_zero]; rfl, by rw [flt_zero]; exact OwnB.nil _ _ _, Ext.refl _⟩
  case round =>
    obtain ⟨k, B, d, hk, rfl, rfl, hor, hxr⟩ := hrel
    by_cases hlt : k < ls.length
    · obtain ⟨g, off, C, d', rfl, hc, hr⟩ := (H.out.ext hxr).cell hlt
      have h3 : (flt ls k).length + (ls[k]).length ≤ 140737488355328 := Nat.le_trans (flt_more ls k hlt) HL.out
      have HF := Lib.hid (flt_step ls k hlt)
      have hsz := hxr.size
      go_wp2_with (at_builtin; refine wpList_append_bytes _ rfl _ _ 22 rfl w.heap.size 5 i0 Tryd.underlying22 hi0 hz0 hz1 hz2 B d (flt ls k) rfl hor T C d' ls[k] rfl hr h3 hsz ?_; intro A' c' w2 ho2 hg2 hb2)
      have hxn := grown_new hxr hg2 hor.ge
      rw [HF.out] at ho2
      go_roundw
      case rel => exact ⟨k + 1, A', c', by omega, by go_num, by rw [← HF.out, List.length_append], ho2, hxn⟩
      case measure => simp [intOf]; omega
    · rw [flt_all ls (by omega)] at *
      go_wp2_with fail
      go_ret
      exact ⟨B, d, rfl, hor, hxr⟩

/-- the number behind n steps, and the bytes that are made from it -/
def spx (x : Nat) : Nat → Nat
  | 0 => x
  | n + 1 => (spx x n * 6364136223846793005 + 1442695040888963407) % 18446744073709551616
def spr (x : Nat) : Nat → List UInt8
  | 0 => []
  | n + 1 => spr x n ++ [UInt8.ofNat (spx x (n + 1) / 8589934592)]
theorem spr_len (x n : Nat) : (spr x n).length = n := by
  induction n with
  | zero => rw [spr]; rfl
  | succ n ih => rw [spr, List.length_append, ih]; rfl
theorem spx_step (x n : Nat) : ∃ m : Nat, IntKind.u64.wrap (((spx x n : Nat) : Int) * 6364136223846793005) = (m : Int) ∧ IntKind.u64.wrap ((m : Int) + 1442695040888963407) = ((spx x (n + 1) : Nat) : Int) := by
  obtain ⟨m, hm⟩ : ∃ m, m = spx x n * 6364136223846793005 % 18446744073709551616 := ⟨_, rfl⟩
  refine ⟨m, ?_, ?_⟩
  · rw [IntKind.wrap_u64, hm, Int.natCast_emod, Int.natCast_mul]
    rfl
  · rw [IntKind.wrap_u64, spx, ← Nat.mod_add_mod, ← hm, Int.natCast_emod, Int.natCast_add]
    rfl
theorem spr_byte (y : Nat) : (y : Int) / 8589934592 % 256 = ((UInt8.ofNat (y / 8589934592)).toNat : Int) := by
  rw [UInt8.toNat_ofNat', Int.natCast_emod, Int.natCast_ediv]
  rfl
theorem spr_succ (x n : Nat) : spr x (n + 1) = spr x n ++ [UInt8.ofNat (spx x (n + 1) / 8589934592)] := by rw [spr]
theorem spx_lt (x n : Nat) (hx : x < 18446744073709551616) : spx x n < 18446744073709551616 := by
  cases n with
  | zero => rw [spx]; exact hx
  | succ n => rw [spx]; exact Nat.mod_lt _ (by decide)

set_option maxRecDepth 100000 in
set_option maxHeartbeats 1000000 in
theorem spread_c (x n : Nat) (hx : x < 18446744073709551616) (hn : n ≤ 1000) (w : World) :
    Calls Tryd.prog 18 #[.int .u64 x, .int .i64 n] w fun e w' => ∃ A c, e = .returned (.slice A n c) ∧ OwnB w' 5 w.heap.size A c (spr x n) ∧ Ext w w' := by
  obtain ⟨i0, hi0, hz0, hz1, hz2⟩ := info_parts info_u8'
  have HX := Lib.hid hx
  clear hx
  go_enter Tryd.func18, Tryd.ntmps18
  go_wp2_with fail
  go_loopw [5, 6, 7] (fun v y i wr => ∃ (k : Nat) (B : Option Addr) (d : Nat), k ≤ n ∧ i = .int .i64 k ∧ y = .int .u64 (spx x k : Nat) ∧ v = .slice B k d ∧ OwnB wr 5 w.heap.size B d (spr x k) ∧ Ext w wr) (fun _ _ i _ => n - (intOf i).toNat)
  case atStart => exact ⟨0, none, 0, Nat.zero_le _, rfl, by rw [spx], rfl, by rw [spr]; exact OwnB.nil _ _ _, Ext.refl _⟩
  case round =>
    obtain ⟨k, B, d, hk, rfl, rfl, rfl, hor, hxr⟩ := hrel
    by_cases hlt : k < n
    · obtain ⟨y, hy⟩ : ∃ y, y = spx x k := ⟨_, rfl⟩
      obtain ⟨z, hz⟩ : ∃ z, z = spx x (k + 1) := ⟨_, rfl⟩
      obtain ⟨b, hb⟩ : ∃ b : UInt8, b = UInt8.ofNat (z / 8589934592) := ⟨_, rfl⟩
      obtain ⟨m, e1, e2⟩ := spx_step x k
      rw [← hy] at e1
      rw [← hz] at e2
      have e3 : (z : Int) / 8589934592 % 256 = (b.toNat : Int) := by rw [hb]; exact spr_byte z
      have hzl : z < 18446744073709551616 := by rw [hz]; exact spx_lt x _ HX.out
      have hs : spr x (k + 1) = spr x k ++ [b] := by rw [spr_succ, ← hz, ← hb]
      have hl := spr_len x k
      rw [← hy]
      have hsz := hxr.size
      have hor' := hor.ext (Ext.alloc wr (.cells #[.int .u8 (b.toNat : Int)] 5))
      have hlit := RB.lit wr [b] #[.int .u8 (b.toNat : Int)] 5 rfl
      have hb1 : (spr x k).length + ([b] : List UInt8).length ≤ 140737488355328 := by rw [hl]; simp; omega
      have HL := Lib.hid hl
      have HS := Lib.hid hs
      have HZ := Lib.hid hz
      clear hl hs hb hy hz
      go_wp2_with (at_builtin; refine wpList_append_bytes _ rfl _ _ 22 rfl w.heap.size 5 i0 Tryd.underlying22 hi0 hz0 hz1 hz2 B d (spr x k) (by rw [HL.out]; rfl) hor' _ (some ⟨wr.heap.size, 0, none⟩) 1 [b] rfl hlit hb1 (by simp; omega) ?_; intro A' c' w2 ho2 hg2 hb2)
      have hxn := grown_new (hxr.tr (Ext.alloc _ _)) hg2 hor'.ge
      rw [← HS.out] at ho2
      go_roundw
      case rel => exact ⟨k + 1, A', c', by omega, by go_num, by rw [← HZ.out], by rw [HL.out], ho2, hxn⟩
      case measure => simp [intOf]; omega
    · have ek : k = n := by omega
      have hor' := hor
      rw [ek] at hor'
      have HO := Lib.hid hor'
      have HX2 := Lib.hid hxr
      have EK := Lib.hid ek
      clear hor hor' hxr ek
      go_wp2_with fail
      go_ret
      exact ⟨B, d, by rw [← EK.out]; rfl, HO.out, HX2.out⟩
end Go.Proofs.YtdbmkkjpdhnllaaDoor
