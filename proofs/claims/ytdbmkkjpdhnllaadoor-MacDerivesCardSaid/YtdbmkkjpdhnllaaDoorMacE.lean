/-
  Package mac: Equal.
-/
import Derived.Test.YtdbmkkjpdhnllaaDoorMacM
namespace Go.Proofs.YtdbmkkjpdhnllaaDoor
open Go.RowKit

set_option maxHeartbeats 1000000 in
theorem equal_c (A B : Option Addr) (a b : List UInt8) (ca cb : Nat) (S T : Nat → TypeId → Prop) (w : World) (ha : RB w S A a) (hb : RB w T B b) (hla : a.length ≤ 9223372036854775807) :
    Calls Tryd.prog 17 #[.slice A a.length ca, .slice B b.length cb] w fun e w' => e = .returned (.bool (decide (a = b))) ∧ w = w' := by
  by_cases hlen : a.length = b.length
  · have H := Lib.hid hlen
    have hb0 := bne_f (a := (a.length : Int)) (b := (b.length : Int)) (by omega)
    have hlen' : b.length ≤ a.length ∧ a.length ≤ b.length := by omega
    obtain ⟨h1, h2⟩ := hlen'
    have HA := Lib.hid ha
    have HB := Lib.hid hb
    clear hlen ha hb
    go_enter Tryd.func17, Tryd.ntmps17
    go_wp2_with fail
    go_loopw [5, 15] (fun d i wr => ∃ k : Nat, k ≤ a.length ∧ i = .int .i64 k ∧ d = .int .u8 (dif a b k : Nat) ∧ w = wr) (fun _ i _ => a.length - (intOf i).toNat)
    case atStart => exact ⟨0, Nat.zero_le _, rfl, rfl, rfl⟩
    case round =>
      obtain ⟨k, hk, rfl, rfl, rfl⟩ := hrel
      by_cases hlt : k < a.length
      · have hlt' : k < b.length := by omega
        obtain ⟨g, off, rfl, hc⟩ := HA.out.cell hlt
        obtain ⟨g', off', rfl, hc'⟩ := HB.out.cell hlt'
        rw [byt_getElem hlt] at hc
        rw [byt_getElem hlt'] at hc'
        have hd : dif a b (k + 1) = dif a b k ||| (byt a k ^^^ byt b k) := by rw [dif]
        have l0 := dif_lt a b k
        have l1 := byt_lt a k
        have l2 := byt_lt b k
        obtain ⟨d, hd0⟩ : ∃ d, d = dif a b k := ⟨_, rfl⟩
        obtain ⟨x, hx⟩ : ∃ x, x = byt a k := ⟨_, rfl⟩
        obtain ⟨y, hy⟩ : ∃ y, y = byt b k := ⟨_, rfl⟩
        rw [← hd0, ← hx, ← hy] at hd
        rw [← hd0] at l0 ⊢
        rw [← hx] at hc l1
        rw [← hy] at hc' l2
        have b1 := u8_xor_nat x y l1 l2
        have b2 := u8_or_nat d (x ^^^ y) l0 (xor256 l1 l2)
        have HD := Lib.hid hd
        clear hd hd0 hx hy
        go_wp2_with fail
        go_roundw
        case rel => exact ⟨k + 1, by omega, by go_num, by rw [HD.out], trivial⟩
        case measure => simp [intOf]; omega
      · have hk' : k = a.length := by omega
        have hz := dif_all H.out
        obtain ⟨d, hd0⟩ : ∃ d, d = dif a b k := ⟨_, rfl⟩
        rw [← hd0]
        rw [← hk', ← hd0] at hz
        have HZ := Lib.hid hz
        clear hz hd0
        by_cases hd : d = 0
        · subst hd
          go_wp2_with fail
          go_ret
          exact ⟨by rw [decide_eq_true (HZ.out.1 trivial)]; rfl, rfl⟩
        · have hbe := beq_f (a := (d : Int)) (b := 0) (by omega)
          have HD := Lib.hid hd
          clear hd
          go_wp2_with fail
          go_ret
          exact ⟨by rw [decide_eq_false (fun h => HD.out (HZ.out.2 h))]; rfl, rfl⟩
  · have hb0 := bne_t (a := (a.length : Int)) (b := (b.length : Int)) (by omega)
    go_enter Tryd.func17, Tryd.ntmps17
    go_wp2_with fail
    go_ret
    exact ⟨by rw [decide_eq_false (fun h => hlen (by rw [h]))]; rfl, rfl⟩
end Go.Proofs.YtdbmkkjpdhnllaaDoor
