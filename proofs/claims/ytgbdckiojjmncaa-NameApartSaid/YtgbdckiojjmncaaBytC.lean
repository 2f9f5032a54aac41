/-
  Package tollref01 (the reference), what layers 4 and above use: Same, Join, Spread.
-/
import Derived.Test.YtgbdckiojjmncaaRowsC
import Derived.Laws.BitsAllLaws
namespace Go.Proofs.Ytgbdckiojjmncaa
open Go.RowKit

theorem info_u8' : (Try.prog.info? 5).map (fun i => (i.zero, i.size, i.bytes)) = some (some (.int .u8 0), 1, 1) := by kernel_rfl

set_option maxHeartbeats 400000 in
theorem same_c (A B : Option Addr) (a b : List UInt8) (ca cb : Nat) (S T : Nat → TypeId → Prop) (w : World) (ha : RB w S A a) (hb : RB w T B b) (hla : a.length ≤ 9223372036854775807) :
    Calls Try.prog 17 #[.slice A a.length ca, .slice B b.length cb] w fun e w' => e = .returned (.bool (decide (a = b))) ∧ ∃ n, w' = w.drewN n := by
  by_cases hlen : a.length = b.length
  · have H := Lib.hid hlen
    have hb0 := bne_f (a := (a.length : Int)) (b := (b.length : Int)) (by omega)
    have hlen' : b.length ≤ a.length ∧ a.length ≤ b.length := by omega
    obtain ⟨h1, h2⟩ := hlen'
    clear hlen
    go_enter Try.func17, Try.ntmps17
    go_wp2
    go_loopw [5] (fun i wr => ∃ k : Nat, k ≤ a.length ∧ i = .int .i64 k ∧ a.take k = b.take k ∧ ∃ n, wr = w.drewN n) (fun i _ => a.length - (intOf i).toNat)
    case atStart => exact ⟨0, Nat.zero_le _, rfl, by simp, 0, rfl⟩
    case round =>
      obtain ⟨k, hk, rfl, ht, n, rfl⟩ := hrel
      have HT := Lib.hid ht
      clear ht
      by_cases hlt : k < a.length
      · have hlt' : k < b.length := by omega
        have HS := Lib.hid (take_succ_eq HT.out hlt hlt')
        obtain ⟨g, off, rfl, hc⟩ := ha.cell hlt
        obtain ⟨g', off', rfl, hc'⟩ := hb.cell hlt'
        by_cases he : a[k] = b[k]
        · have he' := bne_f (a := (a[k].toNat : Int)) (b := (b[k].toNat : Int)) (by rw [he])
          have HE := Lib.hid he
          clear he
          go_wp2_with fail
          go_quiet (fail)
          go_wp2
          go_roundw
          case rel => exact ⟨k + 1, by omega, by go_num, HS.out.2 HE.out, _, rfl⟩
          case measure => simp [intOf]; omega
        · have he' := bne_t (u8_ne he)
          have HE := Lib.hid he
          clear he
          go_wp2_with fail
          go_quiet (fail)
          go_wp2
          go_ret
          exact ⟨by rw [decide_eq_false (fun h => HE.out (by subst h; rfl))]; rfl, n + _, by rw [← World.drewN_drewN]⟩
      · go_wp2
        go_ret
        refine ⟨?_, _, rfl⟩
        have h3 := HT.out
        rw [List.take_of_length_le (by omega), List.take_of_length_le (by omega)] at h3
        rw [decide_eq_true h3]; rfl
  · have hb0 := bne_t (a := (a.length : Int)) (b := (b.length : Int)) (by omega)
    go_enter Try.func17, Try.ntmps17
    go_wp2
    go_ret
    exact ⟨by rw [decide_eq_false (fun h => hlen (by rw [h]))]; rfl, 0, rfl⟩
theorem same_x (A B : Option Addr) (a b : List UInt8) (ca cb : Nat) (S T : Nat → TypeId → Prop) (w : World) (ha : RB w S A a) (hb : RB w T B b) (hla : a.length ≤ 9223372036854775807) (h : a = b) :
    Calls Try.prog 17 #[.slice A a.length ca, .slice B b.length cb] w fun e w' => e = .returned (.bool true) ∧ Ext w w' :=
  (same_c A B a b ca cb S T w ha hb hla).mono fun _ _ ⟨he, n, hw⟩ => ⟨by rw [he, decide_eq_true h], by rw [hw]; exact Ext.drewN _ _⟩


end Go.Proofs.Ytgbdckiojjmncaa
