/-
  TimesSums: what the law's call does.
-/
import Derived.Test.YtcjihcjjhbbjaaaTimA
namespace Go.Proofs.Ytcjihcjjhbbjaaa
open Go.RowKit

theorem row_ints {w : World} {a : Option Addr} {len cap : Nat} {zs : List Int} (h : IsRow .i64 w a len cap zs) : ∃ l : List Int, l.length = len ∧ l.length ≤ maxLen ∧ RL w a l ∧ Fit l := by
  rcases h with ⟨rfl, rfl, rfl, rfl⟩ | ⟨x, rfl, hl, hm, hz, hc, hw⟩
  · exact ⟨[], rfl, by simp [maxLen], RL.nil _ _, fun z hz => by simp at hz⟩
  · refine ⟨zs.take len, by rw [List.length_take]; omega, by rw [List.length_take]; omega, fun hp => ?_, fun z hz => bd_i64 (hw z (List.mem_of_mem_take hz))⟩
    rw [List.length_take] at hp
    have h0 := hc 0 (by omega)
    rw [addr_add0] at h0
    obtain ⟨hs, cs, t, fr, hh⟩ := addr_at h0
    refine ⟨x.block, x.off, cs, t, fr, by cases x; simp_all, hh, fun j z hj => ?_⟩
    rw [List.getElem?_take] at hj
    split at hj
    · rename_i hjl
      have hjz : j < zs.length := by omega
      have hcj := hc j hjz
      rw [(addr_add x j).2 hs, cells_of hh] at hcj
      rw [hcj]
      have e : zs.getD j 0 = z := by rw [List.getD_eq_getElem?_getD, hj]; rfl
      rw [e]
    · cases hj

set_option maxHeartbeats 1000000 in
theorem sums_out (a : Int) (A : Option Addr) (c : Nat) (l : List Int) (w : World) (h : 50 < l.length) (hl : l.length ≤ 9223372036854775807) :
    Calls Try.prog 4 #[.int .i64 a, .slice A l.length c] w fun e w' => e = .returned (.bool true) ∧ Ext w w' := by
  go_enter Try.func4, Try.ntmps4
  go_wp2_with fail
  refine (awake_c _).mono ?_
  rintro x w1 ⟨rfl, hx1⟩
  go_wp2_with fail
  refine (awake_c _).mono ?_
  rintro x w2 ⟨rfl, hx2⟩
  go_wp2_with fail
  go_ret
  exact ⟨rfl, hx1.tr hx2⟩
set_option maxHeartbeats 1000000 in
theorem sums_in (a : Int) (A : Option Addr) (c : Nat) (l : List Int) (w : World) (ha : -9223372036854775808 ≤ a ∧ a ≤ 9223372036854775807) (h : l.length ≤ 50) (hr : RL w A l) (hf : Fit l) :
    Calls Try.prog 4 #[.int .i64 a, .slice A l.length c] w fun e w' => e = .returned (.bool true) ∧ Ext w w' := by
  have HA := Lib.hid ha
  have HR := Lib.hid hr
  have HF := Lib.hid hf
  clear ha hr hf
  go_enter Try.func4, Try.ntmps4
  go_wp2_with fail
  refine (awake_c _).mono ?_
  rintro x w1 ⟨rfl, hx1⟩
  have HX := Lib.hid hx1
  have HR1 := Lib.hid (HR.out.ext hx1)
  clear hx1
  go_wp2_with fail
  go_loop [5, 6, 7] (fun x y i => ∃ j : Nat, j ≤ l.length ∧ i = .int .i64 j ∧ x = .int .i64 (sums a (l.take j)) ∧ y = .int .i64 (mosts (-9223372036854775808) (l.take j))) (fun _ _ i => l.length - (intOf i).toNat)
  case atStart => exact ⟨0, Nat.zero_le _, rfl, rfl, rfl⟩
  case round =>
    obtain ⟨j, hj, rfl, rfl, rfl⟩ := hrel
    by_cases hlt : j < l.length
    · obtain ⟨g', off', rfl, hc'⟩ := HR1.out.cell hlt
      have hs := Lib.hid (foldl_take (f := fun x y => sat (x + y)) a l hlt)
      have hm := Lib.hid (foldl_take (f := max) (-9223372036854775808) l hlt)
      have hb := Lib.hid (sums_bd a (l.take j) HA.out)
      have hz := Lib.hid (HF.out l[j] (List.getElem_mem hlt))
      by_cases hgt : mosts (-9223372036854775808) (l.take j) < l[j]
      all_goals
        go_wp2_with fail
        (with_reducible refine (radd_c (sums a (l.take j)) l[j] _ hb.out hz.out).mono ?_)
        rintro e w' ⟨rfl, rfl⟩
        go_wp2_with fail
        go_round
        case rel => exact ⟨j + 1, by omega, by go_num, by unfold sums; rw [hs.out], by unfold mosts at hgt ⊢; rw [hm.out]; congr 1; omega⟩
        case measure => simp [intOf]; omega
    · have e : l.take j = l := List.take_of_length_le (by omega)
      have E := Lib.hid e
      rw [e]
      clear e
      go_wp2_with fail
      (with_reducible refine (add_c a A c l _ HA.out HR1.out HF.out (by omega)).mono ?_)
      rintro e w' ⟨rfl, rfl⟩
      go_wp2_with fail
      (with_reducible refine (most_c A c l _ HR1.out (by omega)).mono ?_)
      rintro e w' ⟨rfl, rfl⟩
      go_wp2_with fail
      go_ret
      exact ⟨rfl, HX.out⟩
theorem timesSums_walk (a : Int) (A : Option Addr) (len cap : Nat) (zs : List Int) (w : World) (ha : (Lit.int .i64 a).wf = true) (h : IsRow .i64 w A len cap zs) :
    Calls Try.prog 4 #[.int .i64 a, .slice A len cap] w fun e w' => e = .returned (.bool true) ∧ Ext w w' := by
  obtain ⟨l, rfl, hm, hr, hf⟩ := row_ints h
  unfold maxLen at hm
  by_cases h50 : 50 < l.length
  · exact sums_out a A cap l w h50 (by omega)
  · exact sums_in a A cap l w (bd_i64 ha) (by omega) hr hf

end Go.Proofs.Ytcjihcjjhbbjaaa
