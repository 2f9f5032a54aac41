/-
  CrcMatchesReference: the walk.
-/
import Derived.Test.YtpfognoabboheaaDoorCrcV
import Derived.Test.YtpfognoabboheaaDoorBulkR
namespace Go.Proofs.YtpfognoabboheaaDoor
open Go.RowKit

set_option maxRecDepth 100000 in
set_option maxHeartbeats 2000000 in
theorem crcMatchesReference_walk (A : Option Addr) (len cap : Nat) (ls : List (List UInt8)) (w : World) (h : IsRowsC w A len cap ls) (hb : (fla ls).length ≤ 1048576) :
    Calls Tryd.prog 3 #[.slice A len cap] w fun e w' => e = .returned (.bool true) ∧ Ext w w' := by
  obtain ⟨rfl, hl, hmx, hr⟩ := h
  have HR := Lib.hid hr
  have HB := Lib.hid hb
  clear hr hb
  unfold maxLen at hmx
  by_cases h2 : 20 < ls.length
  · have t2 : decide ((20 : Int) < (ls.length : Int)) = true := decide_eq_true (by omega)
    go_enter Tryd.func3, Tryd.ntmps3
    go_wp2_with fail
    refine (awake_c _).mono ?_
    rintro e w1 ⟨rfl, hx1⟩
    have HX1 := Lib.hid hx1
    clear hx1
    go_wp2_with fail
    refine (awake_c _).mono ?_
    rintro e w2 ⟨rfl, hx2⟩
    go_wp2_with fail
    go_ret
    exact ⟨rfl, HX1.out.tr hx2⟩
  · have t2 : decide ((20 : Int) < (ls.length : Int)) = false := decide_eq_false (by omega)
    go_enter Tryd.func3, Tryd.ntmps3
    go_wp2_with fail
    refine (awake_c _).mono ?_
    rintro e w1 ⟨rfl, hx1⟩
    have HX1 := Lib.hid hx1
    clear hx1
    go_wp2_with fail
    refine (rjoin_c A cap ls _ _ _ (HR.out.ext HX1.out).rbs (by have := HB.out; omega) (by omega)).mono ?_
    rintro e w2 ⟨A2, c2, rfl, ho2, hx2⟩
    have HO2 := Lib.hid ho2
    have HX2 := Lib.hid (HX1.out.tr hx2)
    clear ho2 hx2
    obtain ⟨n, hn⟩ : ∃ n, n = (fla ls).length := ⟨_, rfl⟩
    by_cases hbig : 2000 < n
    · rw [← hn]
      have t3 : (2000 : Int) < (n : Int) := by omega
      clear hn
      go_wp2_with fail
      go_ret
      exact ⟨rfl, HX2.out⟩
    · have t3 : (n : Int) ≤ 2000 := by omega
      rw [← hn]
      have hfl : ∀ k, (hk : k < ls.length) → (flt ls k).length + (ls[k]).length ≤ 140737488355328 := fun k hk => by have := flt_more ls k hk; have := HB.out; omega
      have HF := Lib.hid hfl
      have HN := Lib.hid hn
      clear hn hfl
      go_wp2_with fail
      go_loopw [4, 5] (fun v i wr => ∃ k : Nat, k ≤ ls.length ∧ i = .int .i64 k ∧ v = .int .u32 (up 0 (flt ls k) : Nat) ∧ Ext w2 wr) (fun _ i _ => ls.length - (intOf i).toNat)
      case atStart => exact ⟨0, Nat.zero_le _, rfl, by rw [flt_zero]; rfl, Ext.refl _⟩
      case round =>
        obtain ⟨k, hk, rfl, rfl, hx⟩ := hrel
        have HX := Lib.hid hx
        clear hx
        by_cases hlt : k < ls.length
        · obtain ⟨g, off, B, d, rfl, hc, hrb, _⟩ := (HR.out.ext (HX2.out.tr HX.out)).cell hlt
          have hlen := HF.out k hlt
          have hup := up_lt (s := 0) (flt ls k)
          have hst : up (up 0 (flt ls k)) ls[k] = up 0 (flt ls (k + 1)) := by rw [← up_append, flt_step ls k hlt]
          have HST := Lib.hid hst
          have HRB := Lib.hid hrb
          obtain ⟨z, hz⟩ : ∃ z, z = up 0 (flt ls k) := ⟨_, rfl⟩
          rw [← hz] at hup HST ⊢
          clear hst hrb hz
          go_wp2_with fail
          refine (update_c z hup B d ls[k] _ _ HRB.out (by omega)).mono ?_
          rintro e w3 ⟨rfl, hx3⟩
          rw [HST.out]
          go_wp2_with fail
          go_roundw
          case rel => exact ⟨k + 1, by omega, by go_num, rfl, HX.out.tr hx3⟩
          case measure => simp [intOf]; omega
        · have ek : flt ls k = fla ls := flt_all ls (by omega)
          rw [ek]
          have hnn : n = (fla ls).length := HN.out
          have hsum := fun W (hx : Ext w W) => sum_c A cap ls _ _ W (HR.out.ext hx).rbs (by have := HB.out; omega) (by omega)
          have hrs := fun W (hx : Ext w2 W) => rcs_c A2 c2 (fla ls) _ W (HO2.out.rb.ext hx) (by have := HB.out; omega)
          rw [← hnn] at hrs
          have hu : up 0 (fla ls) = cs (fla ls) := rfl
          rw [hu]
          obtain ⟨z, hz⟩ : ∃ z, z = cs (fla ls) := ⟨_, rfl⟩
          rw [← hz] at hsum hrs ⊢
          have tz := beq_t (a := (z : Int)) (b := (z : Int)) rfl
          have HSUM := Lib.hid hsum
          have HRS := Lib.hid hrs
          clear hsum hrs hz ek hnn hu
          go_wp2_with fail
          refine (HSUM.out _ (HX2.out.tr HX.out)).mono ?_
          rintro e w3 ⟨rfl, hx3⟩
          have HX3 := Lib.hid (HX.out.tr hx3)
          clear hx3
          go_wp2_with fail
          refine (HRS.out _ HX3.out).mono ?_
          rintro e w3' ⟨rfl, rfl⟩
          go_wp2_with fail
          refine (HRS.out _ HX3.out).mono ?_
          rintro e w3' ⟨rfl, rfl⟩
          go_wp2_with fail
          go_ret
          exact ⟨rfl, HX2.out.tr HX3.out⟩
end Go.Proofs.YtpfognoabboheaaDoor
