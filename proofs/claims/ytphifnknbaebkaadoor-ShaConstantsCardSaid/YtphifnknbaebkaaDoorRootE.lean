/-
  ShaConstants: the constants are the roots' bits.
-/
import Derived.Test.YtphifnknbaebkaaDoorRootD
import Derived.Test.YtphifnknbaebkaaDoorRootN
import Derived.Test.YtphifnknbaebkaaDoorRootO
namespace Go.Proofs.YtphifnknbaebkaaDoor
open Go.RowKit

theorem primed_bound (f m j n : Nat) (h : primed f m j = some n) : m ≤ n ∧ n < m + f := by
  induction f generalizing m j with
  | zero => rw [primed] at h; cases h
  | succ f ih =>
    rw [primed] at h
    simp only [now_eq] at h
    cases hq : nodiv 20 m 2 true with
    | none => rw [hq] at h; cases h
    | some p =>
      rw [hq] at h
      simp only at h
      split at h
      · have := Option.some.inj h; omega
      · have := ih _ _ h; omega
theorem good_parts {i d v : Nat} (h : goodRoot i d v = true) : ∃ n r, primed 320 2 i = some n ∧ rootn n d = some r ∧ r % 4294967296 = v ∧ 0 < n ∧ n ≤ 1000 := by
  unfold goodRoot at h
  simp only [now_eq] at h
  cases hp : primed 320 2 i with
  | none => rw [hp] at h; cases h
  | some n =>
    rw [hp] at h
    simp only at h
    have hb := primed_bound _ _ _ _ hp
    cases hr : rootn n d with
    | none => rw [hr] at h; cases h
    | some r => rw [hr] at h; exact ⟨n, r, rfl, hr, by simpa using h, by omega, by omega⟩
theorem good_at {o : Nat} {d : Nat} {f : Nat → Nat} (h : ((List.range 8).all fun i => goodRoot (o + i) d (f (o + i))) = true) {i : Nat} (h1 : o ≤ i) (h2 : i < o + 8) : goodRoot i d (f i) = true := by
  have h3 := List.all_eq_true.1 h (i - o) (List.mem_range.2 (by omega))
  rwa [show o + (i - o) = i by omega] at h3
theorem good_k {i : Nat} (hi : i < 64) : goodRoot i 3 (kc i) = true := by
  by_cases h0 : i < 8
  · exact good_at good_0 (Nat.zero_le _) (by omega)
  by_cases h1 : i < 16
  · exact good_at good_1 (by omega) (by omega)
  by_cases h2 : i < 24
  · exact good_at good_2 (by omega) (by omega)
  by_cases h3 : i < 32
  · exact good_at good_3 (by omega) (by omega)
  by_cases h4 : i < 40
  · exact good_at good_4 (by omega) (by omega)
  by_cases h5 : i < 48
  · exact good_at good_5 (by omega) (by omega)
  by_cases h6 : i < 56
  · exact good_at good_6 (by omega) (by omega)
  · exact good_at good_7 (by omega) (by omega)
theorem good_s {i : Nat} (hi : i < 8) : goodRoot i 2 (st0.get i) = true := List.all_eq_true.1 good_start i (List.mem_range.2 hi)

set_option maxRecDepth 100000 in
set_option maxHeartbeats 8000000 in
theorem constants_in (i : Nat) (hi : i < 64) (w : World) (ht : Tab w) :
    Calls Tryd.prog 5 #[.int .i64 i] w fun e w' => e = .returned (.bool true) ∧ Ext w w' := by
  obtain ⟨n3, r3, hp3, hr3, hk3, hn3, hm3⟩ := good_parts (good_k hi)
  obtain ⟨n2, r2, hp2, hr2, hk2, hn2, hm2⟩ := good_parts (good_s (Nat.mod_lt i (by decide : 0 < 8)))
  have R3 : Hid (∀ W, Calls Tryd.prog 17 #[.int .i64 n3, .int .i64 3] W fun e w' => e = .returned (.int .u32 (kc i : Nat)) ∧ Ext W w') := Lib.hid (fun W => by
    have h := root_c n3 3 r3 (by decide) ⟨hn3, hm3⟩ hr3 W
    rw [hk3] at h
    exact h)
  have R2 : Hid (∀ W, Calls Tryd.prog 17 #[.int .i64 n2, .int .i64 2] W fun e w' => e = .returned (.int .u32 (st0.get (i % 8) : Nat)) ∧ Ext W w') := Lib.hid (fun W => by
    have h := root_c n2 2 r2 (by decide) ⟨hn2, hm2⟩ hr2 W
    rw [hk2] at h
    exact h)
  have P3 : Hid (∀ W, Calls Tryd.prog 18 #[.int .i64 i] W fun e w' => e = .returned (.int .i64 n3) ∧ Ext W w') := Lib.hid (fun W => prime_c i n3 hi hp3 W)
  have P2 : Hid (∀ W, Calls Tryd.prog 18 #[.int .i64 ((i : Int) % 8)] W fun e w' => e = .returned (.int .i64 n2) ∧ Ext W w') := Lib.hid (fun W => by
    have h := prime_c (i % 8) n2 (by omega) hp2 W
    rw [Int.natCast_emod] at h
    exact h)
  have HT := Lib.hid ht
  obtain ⟨x, hx⟩ : ∃ x, x = kc i := ⟨_, rfl⟩
  obtain ⟨y, hy⟩ : ∃ y, y = st0.get (i % 8) := ⟨_, rfl⟩
  have hci := fun W hw => const_in i hi W hw
  rw [← hx] at R3 hci
  rw [← hy] at R2
  have HC := Lib.hid hci
  have HY := Lib.hid hy
  clear hp3 hr3 hk3 hn3 hm3 hp2 hr2 hk2 hn2 hm2 ht hci hx hy
  go_enter Tryd.func5, Tryd.ntmps5
  go_wp2_with fail
  refine (awake_c _ HT.out).mono ?_
  rintro e w1 ⟨rfl, hx1⟩
  have HX1 := Lib.hid hx1
  have HT1 := Lib.hid (HT.out.ext hx1)
  clear hx1
  go_wp2_with fail
  refine (HC.out _ HT1.out).mono ?_
  rintro e w2 ⟨rfl, rfl⟩
  go_wp2_with fail
  have hidx : ∀ W, _ := fun W => run_index_tab (P := Tryd.prog) (t := 32) Tryd.underlying32 Tryd.underlying31 size_u32 st0.get (i % 8) (Nat.mod_lt i (by decide)) W
  rw [← HY.out] at hidx
  have hc8 : ((i % 8 : Nat) : Int) = (i : Int) % 8 := Int.natCast_emod i 8
  rw [hc8] at hidx
  have htm : (i : Int).tmod 8 = (i : Int) % 8 := Int.tmod_eq_emod_of_nonneg (by omega)
  rw [← htm] at hidx P2
  clear htm
  have x0 : Ext w w1.drew := HX1.out.tr (Ext.drew _)
  clear hc8 HT HT1 HC HX1
  go_region_held3 (fun W => Ext w W) (first | exact x6 | exact x5 | exact x4 | exact x3 | exact x2 | exact x0)
    (first
      | (go_at_call 18
         with_reducible refine (P3.out _).mono ?_
         rintro e w2 ⟨rfl, h2⟩
         have x2 := x0.tr h2
         clear h2)
      | (go_at_call 17
         with_reducible refine (R3.out _).mono ?_
         rintro e w3 ⟨rfl, h3⟩
         have x3 := x2.tr h3
         clear h3)
      | (go_at_call 19
         with_reducible refine (start_c _).mono ?_
         rintro e w4 ⟨rfl, h4⟩
         have x4 := x3.tr h4
         clear h4)
      | (go_at_call 18
         with_reducible refine (P2.out _).mono ?_
         rintro e w5 ⟨rfl, h5⟩
         have x5 := x4.tr h5
         clear h5)
      | (go_at_call 17
         with_reducible refine (R2.out _).mono ?_
         rintro e w6 ⟨rfl, h6⟩
         have x6 := x5.tr h6
         clear h6))
  all_goals go_wp2_with fail
  all_goals go_ret
  all_goals exact ⟨rfl, x6⟩
theorem constants_out (i : Int) (hi : i < 0 ∨ 64 ≤ i) (w : World) (ht : Tab w) :
    Calls Tryd.prog 5 #[.int .i64 i] w fun e w' => e = .returned (.bool true) ∧ Ext w w' := by
  have HC := Lib.hid (fun W => const_out i hi W)
  rcases hi with h | h
  · have t1 : decide (i < 0) = true := decide_eq_true h
    go_enter Tryd.func5, Tryd.ntmps5
    go_wp2_with fail
    refine (awake_c _ ht).mono ?_
    rintro e w1 ⟨rfl, hx1⟩
    go_wp2_with fail
    refine (HC.out _).mono ?_
    rintro e w2 ⟨rfl, rfl⟩
    go_wp2_with fail
    go_ret
    exact ⟨rfl, hx1⟩
  · have t1 : decide (i < 0) = false := decide_eq_false (by omega)
    have t2 : decide (63 < i) = true := decide_eq_true (by omega)
    go_enter Tryd.func5, Tryd.ntmps5
    go_wp2_with fail
    refine (awake_c _ ht).mono ?_
    rintro e w1 ⟨rfl, hx1⟩
    go_wp2_with fail
    refine (HC.out _).mono ?_
    rintro e w2 ⟨rfl, rfl⟩
    go_wp2_with fail
    go_ret
    exact ⟨rfl, hx1⟩
theorem shaConstants_walk (i : Int) (w : World) (_ha : (Lit.int .i64 i).wf = true) (ht : Tab w) :
    Calls Tryd.prog 5 #[.int .i64 i] w fun e w' => e = .returned (.bool true) ∧ Ext w w' := by
  by_cases h : i < 0 ∨ 64 ≤ i
  · exact constants_out i h w ht
  · obtain ⟨n, rfl⟩ := Int.eq_ofNat_of_zero_le (by omega : 0 ≤ i)
    exact constants_in n (by omega) w ht
end Go.Proofs.YtphifnknbaebkaaDoor
