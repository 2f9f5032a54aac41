/-
  Package tollref01 (the reference), what layers 4 and above use: Same, Join, Spread.
-/
import Derived.Test.YtpfognoabboheaaDoorRowsC
import Derived.Laws.BitsAllLaws
namespace Go.Proofs.YtpfognoabboheaaDoor
open Go.RowKit

theorem info_u8' : (Tryd.prog.info? 5).map (fun i => (i.zero, i.size, i.bytes)) = some (some (.int .u8 0), 1, 1) := by kernel_rfl

set_option maxHeartbeats 400000 in
theorem same_c (A B : Option Addr) (a b : List UInt8) (ca cb : Nat) (S T : Nat → TypeId → Prop) (w : World) (ha : RB w S A a) (hb : RB w T B b) (hla : a.length ≤ 9223372036854775807) :
    Calls Tryd.prog 13 #[.slice A a.length ca, .slice B b.length cb] w fun e w' => e = .returned (.bool (decide (a = b))) ∧ ∃ n, w' = w.drewN n := by
  by_cases hlen : a.length = b.length
  · have H := Lib.hid hlen
    have hb0 := bne_f (a := (a.length : Int)) (b := (b.length : Int)) (by omega)
    have hlen' : b.length ≤ a.length ∧ a.length ≤ b.length := by omega
    obtain ⟨h1, h2⟩ := hlen'
    clear hlen
    go_enter Tryd.func13, Tryd.ntmps13
    go_wp2
    go_loopw [5] (fun i wr => ∃ k : Nat, k ≤ a.length ∧ i = .int .i64 k ∧ a.take k = b.take k ∧ ∃ n, wr = w.drewN n) (fun i _ => a.length - (intOf i).toNat)
    case atStart => exact ⟨0, Nat.zero_le _, rfl, by simp, 0, rfl⟩
    case round =>
      obtain ⟨k, hk, rfl, ht, n, rfl⟩ := hrel
      have HT := Lib.hid ht
      clear ht
      by_cases hlt : k < a.length
      · have hlt' : k < b.length := by omega
        have HS := Lib.hid (take_succ_eq HT.out hlt hlt')
        obtain ⟨g, off, rfl, hc⟩ := ha.cell hlt
        obtain ⟨g', off', rfl, hc'⟩ := hb.cell hlt'
        by_cases he : a[k] = b[k]
        · have he' := bne_f (a := (a[k].toNat : Int)) (b := (b[k].toNat : Int)) (by rw [he])
          have HE := Lib.hid he
          clear he
          go_wp2_with fail
          go_quiet (fail)
          go_wp2
          go_roundw
          case rel => exact ⟨k + 1, by omega, by go_num, HS.out.2 HE.out, _, rfl⟩
          case measure => simp [intOf]; omega
        · have he' := bne_t (u8_ne he)
          have HE := Lib.hid he
          clear he
          go_wp2_with fail
          go_quiet (fail)
          go_wp2
          go_ret
          exact ⟨by rw [decide_eq_false (fun h => HE.out (by subst h; rfl))]; rfl, n + _, by rw [← World.drewN_drewN]⟩
      · go_wp2
        go_ret
        refine ⟨?_, _, rfl⟩
        have h3 := HT.out
        rw [List.take_of_length_le (by omega), List.take_of_length_le (by omega)] at h3
        rw [decide_eq_true h3]; rfl
  · have hb0 := bne_t (a := (a.length : Int)) (b := (b.length : Int)) (by omega)
    go_enter Tryd.func13, Tryd.ntmps13
    go_wp2
    go_ret
    exact ⟨by rw [decide_eq_false (fun h => hlen (by rw [h]))]; rfl, 0, rfl⟩
theorem same_x (A B : Option Addr) (a b : List UInt8) (ca cb : Nat) (S T : Nat → TypeId → Prop) (w : World) (ha : RB w S A a) (hb : RB w T B b) (hla : a.length ≤ 9223372036854775807) (h : a = b) :
    Calls Tryd.prog 13 #[.slice A a.length ca, .slice B b.length cb] w fun e w' => e = .returned (.bool true) ∧ Ext w w' :=
  (same_c A B a b ca cb S T w ha hb hla).mono fun _ _ ⟨he, n, hw⟩ => ⟨by rw [he, decide_eq_true h], by rw [hw]; exact Ext.drewN _ _⟩

set_option maxHeartbeats 1000000 in
theorem rjoin_c (A : Option Addr) (c : Nat) (ls : List (List UInt8)) (S T : Nat → TypeId → Prop) (w : World) (h : RBs w S T A ls) (hl : (fla ls).length ≤ 140737488355328) (hn : ls.length ≤ 140737488355328) :
    Calls Tryd.prog 7 #[.slice A ls.length c] w fun e w' => ∃ A' c', e = .returned (.slice A' (fla ls).length c') ∧ OwnB w' 5 w.heap.size A' c' (fla ls) ∧ Ext w w' := by
  obtain ⟨i0, hi0, hz0, hz1, hz2⟩ := info_parts info_u8'
  have H := Lib.hid h
  have HL := Lib.hid hl
  clear h hl
  go_enter Tryd.func7, Tryd.ntmps7
  go_wp2
  go_loopw [3, 4] (fun v i wr => ∃ (k : Nat) (B : Option Addr) (d : Nat), k ≤ ls.length ∧ i = .int .i64 k ∧ v = .slice B (flt ls k).length d ∧ OwnB wr 5 w.heap.size B d (flt ls k) ∧ Ext w wr) (fun _ i _ => ls.length - (intOf i).toNat)
  case atStart => exact ⟨0, none, 0, Nat.zero_le _, rfl, by rw [flt_zero]; rfl, by rw [flt_zero]; exact OwnB.nil _ _ _, Ext.refl _⟩
  case round =>
    obtain ⟨k, B, d, hk, rfl, rfl, hor, hxr⟩ := hrel
    by_cases hlt : k < ls.length
    · obtain ⟨g, off, C, d', rfl, hc, hr⟩ := (H.out.ext hxr).cell hlt
      have h3 : (flt ls k).length + (ls[k]).length ≤ 140737488355328 := Nat.le_trans (flt_more ls k hlt) HL.out
      have HF := Lib.hid (flt_step ls k hlt)
      have hsz := hxr.size
      go_wp2_with (at_builtin; refine wpList_append_bytes _ rfl _ _ 24 rfl w.heap.size 5 i0 Tryd.underlying24 hi0 hz0 hz1 hz2 B d (flt ls k) rfl hor T C d' ls[k] rfl hr h3 hsz ?_; intro A' c' w2 ho2 hg2 hb2)
      have hxn := grown_new hxr hg2 hor.ge
      rw [HF.out] at ho2
      go_roundw
      case rel => exact ⟨k + 1, A', c', by omega, by go_num, by rw [← HF.out, List.length_append], ho2, hxn⟩
      case measure => simp [intOf]; omega
    · rw [flt_all ls (by omega)] at *
      go_wp2_with fail
      go_ret
      exact ⟨B, d, rfl, hor, hxr⟩

end Go.Proofs.YtpfognoabboheaaDoor
