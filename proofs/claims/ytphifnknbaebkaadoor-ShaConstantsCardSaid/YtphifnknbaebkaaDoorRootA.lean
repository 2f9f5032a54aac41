/-
  ShaConstants: the reference's primes.
-/
import Derived.Test.YtphifnknbaebkaaDoorRootM
import Derived.Test.YtphifnknbaebkaaDoorShaS
namespace Go.Proofs.YtphifnknbaebkaaDoor
open Go.RowKit

theorem sq_small (d : Nat) (h : d ≤ 22) : d * d ≤ 484 := Nat.mul_le_mul h h
theorem wrap_sq (d : Nat) (h : d ≤ 22) : IntKind.i64.wrap ((d : Int) * (d : Int)) = ((d * d : Nat) : Int) := by
  have h2 := sq_small d h
  rw [show (d : Int) * (d : Int) = ((d * d : Nat) : Int) from (Int.natCast_mul d d).symm]
  exact IntWalk.i64_in _ (by omega)

theorem primed_yes {f m n : Nat} (h : primed (f + 1) m 0 = some n) (hq : nodiv 20 m 2 true = some true) : m = n := by
  rw [primed, hq] at h
  simpa using h
theorem primed_skip {f m n j : Nat} (h : primed (f + 1) m j = some n) (hq : nodiv 20 m 2 true = some true) (hj : j ≠ 0) : primed f (m + 1) (j - 1) = some n := by
  rw [primed, hq] at h
  simpa [now_eq, hj] using h
theorem primed_no {f m n j : Nat} (h : primed (f + 1) m j = some n) (hq : nodiv 20 m 2 true = some false) : primed f (m + 1) j = some n := by
  rw [primed, hq] at h
  simpa [now_eq] using h

set_option maxHeartbeats 4000000 in
theorem prime_c (i n : Nat) (hi : i < 64) (h : primed 320 2 i = some n) (w : World) :
    Calls Tryd.prog 18 #[.int .i64 i] w fun e w' => e = .returned (.int .i64 n) ∧ Ext w w' := by
  have H := Lib.hid h
  clear h
  go_enter Tryd.func18, Tryd.ntmps18
  go_wp2_with fail
  go_loopw [0, 3] (fun vi vn wr => ∃ (j m f : Nat), vi = .int .i64 j ∧ vn = .int .i64 m ∧ j < 64 ∧ m + f = 322 ∧ primed f m j = some n ∧ Ext w wr) (fun _ vn _ => 322 - (intOf vn).toNat)
  case atStart => exact ⟨i, 2, 320, rfl, rfl, hi, rfl, H.out, Ext.refl _⟩
  case round =>
    obtain ⟨j, m, f, rfl, rfl, hj, hm, hp, hxr⟩ := hrel
    obtain ⟨wo, hwo⟩ : ∃ wo : World, wo = wr := ⟨_, rfl⟩
    subst hwo
    rcases f with _ | f
    · rw [primed] at hp; cases hp
    · obtain ⟨p, hnd⟩ : ∃ p, nodiv 20 m 2 true = some p := by
        rw [primed] at hp
        cases hq : nodiv 20 m 2 true with
        | none => rw [hq] at hp; cases hp
        | some p => exact ⟨p, rfl⟩
      have HP := Lib.hid hp
      have HX := Lib.hid hxr
      have HND := Lib.hid hnd
      clear hp hnd hxr
      go_wp2_with fail
      go_loopw [4, 5] (fun vp vd wi => ∃ (q : Bool) (d fu : Nat), vp = .bool q ∧ vd = .int .i64 d ∧ 2 ≤ d ∧ d + fu = 22 ∧ nodiv fu m d q = some p ∧ wi = wo) (fun _ vd _ => 22 - (intOf vd).toNat)
      case atStart => exact ⟨true, 2, 20, rfl, rfl, Nat.le_refl _, rfl, HND.out, rfl⟩
      case round =>
        obtain ⟨q, d, fu, rfl, rfl, hd, hfu, hq, rfl⟩ := hrel
        rcases fu with _ | fu
        · rw [nodiv] at hq; cases hq
        · rw [nodiv] at hq
          have hw := wrap_sq d (by omega)
          have hdn : (d : Int) ≠ 0 := by omega
          by_cases hle : d * d ≤ m
          · rw [if_pos hle] at hq
            have t1 : (d : Int) * (d : Int) ≤ (m : Int) := by exact_mod_cast hle
            by_cases hdv : m % d = 0
            · rw [if_pos hdv] at hq
              have HQ := Lib.hid hq
              have t2 : ((m : Int) % (d : Int) == 0) = true := by
                rw [beq_iff_eq]
                exact_mod_cast hdv
              clear hq
              go_wp2_with fail
              go_roundw
              case rel => exact ⟨false, d + 1, fu, rfl, by go_num, by omega, by omega, HQ.out, trivial⟩
              case measure => simp [intOf]; omega
            · rw [if_neg hdv] at hq
              have HQ := Lib.hid hq
              have t2 : ((m : Int) % (d : Int) == 0) = false := by
                rw [beq_eq_false_iff_ne]
                exact_mod_cast hdv
              clear hq
              go_wp2_with fail
              go_roundw
              case rel => exact ⟨q, d + 1, fu, rfl, by go_num, by omega, by omega, HQ.out, trivial⟩
              case measure => simp [intOf]; omega
          · rw [if_neg hle] at hq
            obtain rfl : q = p := Option.some.inj hq
            have t1 : ¬ (d : Int) * (d : Int) ≤ (m : Int) := by exact_mod_cast hle
            clear hq
            rcases q with _ | _
            · have HN := Lib.hid (primed_no HP.out HND.out)
              go_wp2_with fail
              go_roundw
              case rel => exact ⟨j, m + 1, f, rfl, by go_num, hj, by omega, HN.out, HX.out⟩
              case measure => simp [intOf]; omega
            · by_cases hj0 : j = 0
              · subst hj0
                obtain rfl := primed_yes HP.out HND.out
                go_wp2_with fail
                go_ret
                exact ⟨rfl, HX.out⟩
              · have HN := Lib.hid (primed_skip HP.out HND.out hj0)
                have t2 : ((j : Int) == 0) = false := by
                  rw [beq_eq_false_iff_ne]
                  exact_mod_cast hj0
                go_wp2_with fail
                go_roundw
                case rel => exact ⟨j - 1, m + 1, f, by go_num, by go_num, by omega, by omega, HN.out, HX.out⟩
                case measure => simp [intOf]; omega
end Go.Proofs.YtphifnknbaebkaaDoor
