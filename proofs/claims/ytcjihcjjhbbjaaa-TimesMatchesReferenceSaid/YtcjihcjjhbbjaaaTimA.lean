/-
  Package times: sums and differences that saturate, folds over a list of numbers.
-/
import Derived.Test.YtcjihcjjhbbjaaaKit
import Derived.Laws.BitsAllLaws
namespace Go.Proofs.Ytcjihcjjhbbjaaa
open Go.RowKit

/-- the nearest number of 64 bits with a sign -/
def sat (x : Int) : Int := if x < -9223372036854775808 then -9223372036854775808 else if 9223372036854775807 < x then 9223372036854775807 else x
theorem sat_bd (x : Int) : -9223372036854775808 ≤ sat x ∧ sat x ≤ 9223372036854775807 := by unfold sat; split <;> (try split) <;> omega
theorem sat_in {x : Int} (h1 : -9223372036854775808 ≤ x) (h2 : x ≤ 9223372036854775807) : sat x = x := by unfold sat; rw [if_neg (by omega), if_neg (by omega)]
theorem sat_hi {x : Int} (h : 9223372036854775807 < x) : sat x = 9223372036854775807 := by unfold sat; rw [if_neg (by omega), if_pos h]
theorem sat_lo {x : Int} (h : x < -9223372036854775808) : sat x = -9223372036854775808 := by unfold sat; rw [if_pos h]
theorem sat_mono {x y : Int} (h : x ≤ y) : sat x ≤ sat y := by unfold sat; split <;> split <;> (try split) <;> (try split) <;> omega
theorem ret_i64 {a b : Int} (h : a = b) : Ending.returned (.int .i64 a) = .returned (.int .i64 b) := by rw [h]

set_option maxHeartbeats 400000 in
theorem bound_c (b : Bool) (w : World) : Calls Try.prog 20 #[.bool b] w fun e w' => e = .returned (.int .i64 (if b = true then 9223372036854775807 else -9223372036854775808)) ∧ w = w' := by
  cases b <;>
  · go_enter Try.func20, Try.ntmps20
    go_wp2_with fail
    go_ret
    exact ⟨rfl, rfl⟩

theorem w64_in {x : Int} (h1 : -9223372036854775808 ≤ x) (h2 : x ≤ 9223372036854775807) : wrap64 x = x := by unfold wrap64; omega
theorem w64_lo {x : Int} (h1 : x < -9223372036854775808) (h2 : -18446744073709551616 ≤ x) : wrap64 x = x + 18446744073709551616 := by unfold wrap64; omega
theorem w64_hi {x : Int} (h1 : 9223372036854775807 < x) (h2 : x < 18446744073709551616) : wrap64 x = x - 18446744073709551616 := by unfold wrap64; omega
theorem bools_eq {p q : Prop} [Decidable p] [Decidable q] (h : p ↔ q) : (decide p == decide q) = true := by simp [h]
theorem bools_ne {p q : Prop} [Decidable p] [Decidable q] (h : ¬ (p ↔ q)) : (decide p == decide q) = false := by
  by_cases hp : p <;> by_cases hq : q <;> simp_all

set_option maxHeartbeats 400000 in
theorem add1_c (a b : Int) (w : World) (ha : -9223372036854775808 ≤ a ∧ a ≤ 9223372036854775807) (hb : -9223372036854775808 ≤ b ∧ b ≤ 9223372036854775807) :
    Calls Try.prog 19 #[.int .i64 a, .int .i64 b] w fun e w' => e = .returned (.int .i64 (sat (a + b))) ∧ w = w' := by
  obtain ⟨ha1, ha2⟩ := ha
  obtain ⟨hb1, hb2⟩ := hb
  by_cases h1 : a + b < -9223372036854775808
  · have e := Lib.hid (sat_lo h1)
    have t1 : (decide (wrap64 (a + b) < a) == decide (b < 0)) = false := bools_ne (by rw [w64_lo h1 (by omega)]; omega)
    have t2 : decide (0 < b) = false := decide_eq_false (by omega)
    clear h1
    go_enter Try.func19, Try.ntmps19
    go_wp2_with (go_at_call 20; refine (bound_c false _).mono ?_; rintro e w' ⟨rfl, rfl⟩)
    go_ret
    exact ⟨ret_i64 e.out.symm, rfl⟩
  · by_cases h2 : 9223372036854775807 < a + b
    · have e := Lib.hid (sat_hi h2)
      have t1 : (decide (wrap64 (a + b) < a) == decide (b < 0)) = false := bools_ne (by rw [w64_hi h2 (by omega)]; omega)
      have t2 : decide (0 < b) = true := decide_eq_true (by omega)
      clear h1 h2
      go_enter Try.func19, Try.ntmps19
      go_wp2_with (go_at_call 20; refine (bound_c true _).mono ?_; rintro e w' ⟨rfl, rfl⟩)
      go_ret
      exact ⟨ret_i64 e.out.symm, rfl⟩
    · have e := Lib.hid (sat_in (x := a + b) (by omega) (by omega))
      have t1 : (decide (wrap64 (a + b) < a) == decide (b < 0)) = true := bools_eq (by rw [w64_in (by omega) (by omega)]; omega)
      have e2 := Lib.hid (w64_in (x := a + b) (by omega) (by omega))
      clear h1 h2
      go_enter Try.func19, Try.ntmps19
      go_wp2_with fail
      go_ret
      exact ⟨ret_i64 (by rw [e.out, e2.out]), rfl⟩

set_option maxHeartbeats 400000 in
theorem sub_c (a b : Int) (w : World) (ha : -9223372036854775808 ≤ a ∧ a ≤ 9223372036854775807) (hb : -9223372036854775808 ≤ b ∧ b ≤ 9223372036854775807) :
    Calls Try.prog 10 #[.int .i64 a, .int .i64 b] w fun e w' => e = .returned (.int .i64 (sat (a - b))) ∧ w = w' := by
  obtain ⟨ha1, ha2⟩ := ha
  obtain ⟨hb1, hb2⟩ := hb
  by_cases h1 : a - b < -9223372036854775808
  · have e := Lib.hid (sat_lo h1)
    have t1 : (decide (a < wrap64 (a - b)) == decide (b < 0)) = false := bools_ne (by rw [w64_lo h1 (by omega)]; omega)
    have t2 : decide (b < 0) = false := decide_eq_false (by omega)
    have t1' := t1
    rw [t2] at t1'
    clear h1
    go_enter Try.func10, Try.ntmps10
    go_wp2_with (go_at_call 20; refine (bound_c false _).mono ?_; rintro e w' ⟨rfl, rfl⟩)
    go_ret
    exact ⟨ret_i64 e.out.symm, rfl⟩
  · by_cases h2 : 9223372036854775807 < a - b
    · have e := Lib.hid (sat_hi h2)
      have t1 : (decide (a < wrap64 (a - b)) == decide (b < 0)) = false := bools_ne (by rw [w64_hi h2 (by omega)]; omega)
      have t2 : decide (b < 0) = true := decide_eq_true (by omega)
      have t1' := t1
      rw [t2] at t1'
      clear h1 h2
      go_enter Try.func10, Try.ntmps10
      go_wp2_with (go_at_call 20; refine (bound_c true _).mono ?_; rintro e w' ⟨rfl, rfl⟩)
      go_ret
      exact ⟨ret_i64 e.out.symm, rfl⟩
    · have e := Lib.hid (sat_in (x := a - b) (by omega) (by omega))
      have t1 : (decide (a < wrap64 (a - b)) == decide (b < 0)) = true := bools_eq (by rw [w64_in (by omega) (by omega)]; omega)
      have e2 := Lib.hid (w64_in (x := a - b) (by omega) (by omega))
      clear h1 h2
      go_enter Try.func10, Try.ntmps10
      go_wp2_with fail
      go_ret
      exact ⟨ret_i64 (by rw [e.out, e2.out]), rfl⟩

set_option maxHeartbeats 400000 in
theorem most1_c (a b : Int) (w : World) :
    Calls Try.prog 21 #[.int .i64 a, .int .i64 b] w fun e w' => e = .returned (.int .i64 (max a b)) ∧ w = w' := by
  go_enter Try.func21, Try.ntmps21
  go_wp2_with fail
  all_goals
    go_ret
    exact ⟨ret_i64 (by omega), rfl⟩

/-- the distance -/
def dist (a b : Int) : Int := sat (max a b - min a b)
set_option maxHeartbeats 400000 in
theorem apart_c (a b : Int) (w : World) (ha : -9223372036854775808 ≤ a ∧ a ≤ 9223372036854775807) (hb : -9223372036854775808 ≤ b ∧ b ≤ 9223372036854775807) :
    Calls Try.prog 12 #[.int .i64 a, .int .i64 b] w fun e w' => e = .returned (.int .i64 (dist a b)) ∧ w = w' := by
  have HA := Lib.hid ha
  have HB := Lib.hid hb
  clear ha hb
  have h3 : a < b ∨ a = b ∨ b < a := by omega
  rcases h3 with h | rfl | h
  · have e := Lib.hid (show sat (b - a) = dist a b by unfold dist; congr 1; omega)
    go_enter Try.func12, Try.ntmps12
    go_wp2_with fail
    (with_reducible refine (sub_c b a _ HB.out HA.out).mono ?_)
    rintro e w' ⟨rfl, rfl⟩
    go_wp2_with fail
    go_ret
    exact ⟨ret_i64 e.out, rfl⟩
  · have e := Lib.hid (show sat (a - a) = dist a a by unfold dist; congr 1; omega)
    go_enter Try.func12, Try.ntmps12
    go_wp2_with fail
    (with_reducible refine (sub_c a a _ HA.out HA.out).mono ?_)
    rintro e w' ⟨rfl, rfl⟩
    go_wp2_with fail
    go_ret
    exact ⟨ret_i64 (by simpa using e.out), rfl⟩
  · have e := Lib.hid (show sat (a - b) = dist a b by unfold dist; congr 1; omega)
    go_enter Try.func12, Try.ntmps12
    go_wp2_with fail
    (with_reducible refine (sub_c a b _ HA.out HB.out).mono ?_)
    rintro e w' ⟨rfl, rfl⟩
    go_wp2_with fail
    go_ret
    exact ⟨ret_i64 e.out, rfl⟩

/-! ## the reference -/
theorem sat_add_hi {a b : Int} (h : 2147483647 < a / 4294967296 + b / 4294967296 + (a - a / 4294967296 * 4294967296 + (b - b / 4294967296 * 4294967296)) / 4294967296) : 9223372036854775807 < a + b := by omega
set_option maxHeartbeats 400000 in
theorem radd_c (a b : Int) (w : World) (ha : -9223372036854775808 ≤ a ∧ a ≤ 9223372036854775807) (hb : -9223372036854775808 ≤ b ∧ b ≤ 9223372036854775807) :
    Calls Try.prog 9 #[.int .i64 a, .int .i64 b] w fun e w' => e = .returned (.int .i64 (sat (a + b))) ∧ w = w' := by
  obtain ⟨ha1, ha2⟩ := ha
  obtain ⟨hb1, hb2⟩ := hb
  go_enter Try.func9, Try.ntmps9
  go_wp2_with fail
  all_goals
    go_ret
    refine ⟨ret_i64 ?_, rfl⟩
    unfold sat
    split <;> (try split) <;> omega
set_option maxHeartbeats 400000 in
theorem rsub_c (a b : Int) (w : World) (ha : -9223372036854775808 ≤ a ∧ a ≤ 9223372036854775807) (hb : -9223372036854775808 ≤ b ∧ b ≤ 9223372036854775807) :
    Calls Try.prog 11 #[.int .i64 a, .int .i64 b] w fun e w' => e = .returned (.int .i64 (sat (a - b))) ∧ w = w' := by
  obtain ⟨ha1, ha2⟩ := ha
  obtain ⟨hb1, hb2⟩ := hb
  go_enter Try.func11, Try.ntmps11
  go_wp2_with fail
  all_goals
    go_ret
    refine ⟨ret_i64 ?_, rfl⟩
    unfold sat
    split <;> (try split) <;> omega
set_option maxHeartbeats 400000 in
theorem rapart_c (a b : Int) (w : World) (ha : -9223372036854775808 ≤ a ∧ a ≤ 9223372036854775807) (hb : -9223372036854775808 ≤ b ∧ b ≤ 9223372036854775807) :
    Calls Try.prog 13 #[.int .i64 a, .int .i64 b] w fun e w' => e = .returned (.int .i64 (dist a b)) ∧ w = w' := by
  have HA := Lib.hid ha
  have HB := Lib.hid hb
  clear ha hb
  by_cases h : a < b
  · have e := Lib.hid (show sat (b - a) = dist a b by unfold dist; congr 1; omega)
    go_enter Try.func13, Try.ntmps13
    go_wp2_with fail
    refine (rsub_c b a _ HB.out HA.out).mono ?_
    rintro e w' ⟨rfl, rfl⟩
    go_wp2_with fail
    go_ret
    exact ⟨ret_i64 e.out, rfl⟩
  · have e := Lib.hid (show sat (a - b) = dist a b by unfold dist; congr 1; omega)
    go_enter Try.func13, Try.ntmps13
    go_wp2_with fail
    refine (rsub_c a b _ HA.out HB.out).mono ?_
    rintro e w' ⟨rfl, rfl⟩
    go_wp2_with fail
    go_ret
    exact ⟨ret_i64 e.out, rfl⟩

/-! ## folds over a list of numbers -/
/-- A slice of numbers reads as the list l. -/
def RL (w : World) (A : Option Addr) (l : List Int) : Prop :=
  0 < l.length → ∃ g off cs t fr, A = some ⟨g, off, none⟩ ∧ w.heap[g]? = some (.cells cs t fr) ∧ ∀ j z, l[j]? = some z → cs[off + j]? = some (.int .i64 z)
theorem RL.ext {w w' : World} {A : Option Addr} {l : List Int} (h : RL w A l) (hb : Ext w w') : RL w' A l := by
  intro hl
  obtain ⟨g, off, cs, t, fr, rfl, hh, hc⟩ := h hl
  exact ⟨g, off, cs, t, fr, rfl, hb.get hh, hc⟩
theorem RL.cell {w : World} {A : Option Addr} {l : List Int} (h : RL w A l) {k : Nat} (hk : k < l.length) :
    ∃ g off, A = some ⟨g, off, none⟩ ∧ w.cell? ⟨g, off + k, none⟩ = some (.int .i64 l[k]) := by
  obtain ⟨g, off, cs, t, fr, rfl, hh, hc⟩ := h (by omega)
  exact ⟨g, off, rfl, by rw [cells_of hh]; exact hc k _ (List.getElem?_eq_getElem hk)⟩
theorem RL.nil (w : World) (A : Option Addr) : RL w A [] := fun h => absurd h (by simp)
theorem RL.one (w : World) (b : Int) (t : TypeId) : RL (w.alloc (.cells #[.int .i64 b] t)) (some ⟨w.heap.size, 0, none⟩) [b] := by
  intro _
  refine ⟨_, 0, _, _, _, rfl, new_of _ _, fun j z hj => ?_⟩
  match j, hj with
  | 0, hj =>
    injection hj with hj
    subst hj
    rfl
/-- all of them fit -/
def Fit (l : List Int) : Prop := ∀ z ∈ l, -9223372036854775808 ≤ z ∧ z ≤ 9223372036854775807

def sums (a : Int) (l : List Int) : Int := l.foldl (fun x y => sat (x + y)) a
def mosts (a : Int) (l : List Int) : Int := l.foldl max a
theorem foldl_take {f : Int → Int → Int} (a : Int) (l : List Int) {j : Nat} (h : j < l.length) : (l.take (j + 1)).foldl f a = f ((l.take j).foldl f a) l[j] := by
  rw [List.take_succ_eq_append_getElem h, List.foldl_append]; rfl
theorem sums_bd (a : Int) (l : List Int) (ha : -9223372036854775808 ≤ a ∧ a ≤ 9223372036854775807) : -9223372036854775808 ≤ sums a l ∧ sums a l ≤ 9223372036854775807 := by
  induction l generalizing a with
  | nil => exact ha
  | cons x l ih => exact ih (sat (a + x)) (sat_bd _)
theorem mosts_bd (a : Int) (l : List Int) (ha : -9223372036854775808 ≤ a ∧ a ≤ 9223372036854775807) (hl : Fit l) : -9223372036854775808 ≤ mosts a l ∧ mosts a l ≤ 9223372036854775807 := by
  induction l generalizing a with
  | nil => exact ha
  | cons x l ih =>
    have := hl x (by simp)
    exact ih (max a x) (by omega) (fun z hz => hl z (by simp [hz]))

set_option maxHeartbeats 400000 in
theorem foldA_c (a : Int) (A : Option Addr) (c : Nat) (l : List Int) (w : World) (ha : -9223372036854775808 ≤ a ∧ a ≤ 9223372036854775807) (hr : RL w A l) (hf : Fit l) (hl : l.length ≤ 9223372036854775807) :
    Calls Try.prog 18 #[.int .i64 a, .slice A l.length c, .func (.func 19) #[] #[]] w fun e w' => e = .returned (.int .i64 (sums a l)) ∧ w = w' := by
  have HA := Lib.hid ha
  have HR := Lib.hid hr
  have HF := Lib.hid hf
  clear ha hr hf
  go_enter Try.func18, Try.ntmps18
  go_wp2_with fail
  go_loop [0, 8, 11] (fun x y i => ∃ j : Nat, j ≤ l.length ∧ i = .int .i64 j ∧ x = .int .i64 (sums a (l.take j))) (fun _ _ i => l.length - (intOf i).toNat)
  case atStart => exact ⟨0, Nat.zero_le _, rfl, rfl⟩
  case round =>
    obtain ⟨j, hj, rfl, rfl⟩ := hrel
    by_cases hlt : j < l.length
    · obtain ⟨g', off', rfl, hc'⟩ := HR.out.cell hlt
      have hs := Lib.hid (foldl_take (f := fun x y => sat (x + y)) a l hlt)
      have hb := Lib.hid (sums_bd a (l.take j) HA.out)
      have hz := Lib.hid (HF.out l[j] (List.getElem_mem hlt))
      go_wp2_with fail
      (with_reducible refine (add1_c (sums a (l.take j)) l[j] _ hb.out hz.out).mono ?_)
      rintro e w' ⟨rfl, rfl⟩
      go_wp2_with fail
      go_round
      case rel => exact ⟨j + 1, by omega, by go_num, by unfold sums; rw [hs.out]⟩
      case measure => simp [intOf]; omega
    · go_wp2_with fail
      go_ret
      exact ⟨ret_i64 (by rw [List.take_of_length_le (by omega)]), rfl⟩
set_option maxHeartbeats 400000 in
theorem foldM_c (a : Int) (A : Option Addr) (c : Nat) (l : List Int) (w : World) (hr : RL w A l) (hl : l.length ≤ 9223372036854775807) :
    Calls Try.prog 18 #[.int .i64 a, .slice A l.length c, .func (.func 21) #[] #[]] w fun e w' => e = .returned (.int .i64 (mosts a l)) ∧ w = w' := by
  have HR := Lib.hid hr
  clear hr
  go_enter Try.func18, Try.ntmps18
  go_wp2_with fail
  go_loop [0, 8, 11] (fun x y i => ∃ j : Nat, j ≤ l.length ∧ i = .int .i64 j ∧ x = .int .i64 (mosts a (l.take j))) (fun _ _ i => l.length - (intOf i).toNat)
  case atStart => exact ⟨0, Nat.zero_le _, rfl, rfl⟩
  case round =>
    obtain ⟨j, hj, rfl, rfl⟩ := hrel
    by_cases hlt : j < l.length
    · obtain ⟨g', off', rfl, hc'⟩ := HR.out.cell hlt
      have hs := Lib.hid (foldl_take (f := max) a l hlt)
      go_wp2_with fail
      (with_reducible refine (most1_c (mosts a (l.take j)) l[j] _).mono ?_)
      rintro e w' ⟨rfl, rfl⟩
      go_wp2_with fail
      go_round
      case rel => exact ⟨j + 1, by omega, by go_num, by unfold mosts; rw [hs.out]⟩
      case measure => simp [intOf]; omega
    · go_wp2_with fail
      go_ret
      exact ⟨ret_i64 (by rw [List.take_of_length_le (by omega)]), rfl⟩

set_option maxHeartbeats 400000 in
theorem add_c (a : Int) (A : Option Addr) (c : Nat) (l : List Int) (w : World) (ha : -9223372036854775808 ≤ a ∧ a ≤ 9223372036854775807) (hr : RL w A l) (hf : Fit l) (hl : l.length ≤ 9223372036854775807) :
    Calls Try.prog 8 #[.int .i64 a, .slice A l.length c] w fun e w' => e = .returned (.int .i64 (sums a l)) ∧ w = w' := by
  have HA := Lib.hid ha
  have HR := Lib.hid hr
  have HF := Lib.hid hf
  clear ha hr hf
  go_enter Try.func8, Try.ntmps8
  go_wp2_with fail
  (with_reducible refine (foldA_c a A c l _ HA.out HR.out HF.out hl).mono ?_)
  rintro e w' ⟨rfl, rfl⟩
  go_wp2_with fail
  go_ret
  exact ⟨rfl, rfl⟩
set_option maxHeartbeats 400000 in
theorem most_c (A : Option Addr) (c : Nat) (l : List Int) (w : World) (hr : RL w A l) (hl : l.length ≤ 9223372036854775807) :
    Calls Try.prog 14 #[.slice A l.length c] w fun e w' => e = .returned (.int .i64 (mosts (-9223372036854775808) l)) ∧ w = w' := by
  have HR := Lib.hid hr
  clear hr
  go_enter Try.func14, Try.ntmps14
  go_wp2_with fail
  (with_reducible refine (foldM_c _ A c l _ HR.out hl).mono ?_)
  rintro e w' ⟨rfl, rfl⟩
  go_wp2_with fail
  go_ret
  exact ⟨rfl, rfl⟩
/-- a sum of two numbers: the second one lies in a new row -/
theorem add_one (a b : Int) (g : Nat) (w : World) (t : TypeId) (ha : -9223372036854775808 ≤ a ∧ a ≤ 9223372036854775807) (hb : -9223372036854775808 ≤ b ∧ b ≤ 9223372036854775807) (hg : w.heap[g]? = some (.cells #[.int .i64 b] t (0, 0))) :
    Calls Try.prog 8 #[.int .i64 a, .slice (some ⟨g, 0, none⟩) 1 1] w fun e w' => e = .returned (.int .i64 (sat (a + b))) ∧ w = w' := by
  refine add_c a (some ⟨g, 0, none⟩) 1 [b] w ha ?_ ?_ (by simp)
  · intro _
    refine ⟨g, 0, _, _, _, rfl, hg, fun j z hj => ?_⟩
    match j, hj with
    | 0, hj =>
      injection hj with hj
      subst hj
      rfl
  · intro z hz
    simp at hz
    subst hz
    exact hb
set_option maxHeartbeats 400000 in
theorem window_c (s e k : Int) (w : World) (hs : -9223372036854775808 ≤ s ∧ s ≤ 9223372036854775807) (he : -9223372036854775808 ≤ e ∧ e ≤ 9223372036854775807) (hk : -9223372036854775808 ≤ k ∧ k ≤ 9223372036854775807) :
    Calls Try.prog 17 #[.int .i64 s, .int .i64 e, .int .i64 k] w fun x w' => x = .returned (.tuple #[.int .i64 (sat (s - k)), .int .i64 (sat (e + k))]) ∧ Ext w w' := by
  have HS := Lib.hid hs
  have HE := Lib.hid he
  have HK := Lib.hid hk
  clear hs he hk
  go_enter Try.func17, Try.ntmps17
  go_wp2_with fail
  (with_reducible refine (sub_c s k _ HS.out HK.out).mono ?_)
  rintro x w' ⟨rfl, rfl⟩
  go_wp2_with fail
  (with_reducible refine (add_one e k _ _ _ HE.out HK.out (new_of _ _)).mono ?_)
  rintro x w' ⟨rfl, rfl⟩
  go_wp2_with fail
  go_ret2
  exact ⟨rfl, Ext.alloc _ _⟩

/-- the side of a time -/
def side (t s e k : Int) : Int := if t < sat (s - k) then -1 else if sat (e + k) < t then 1 else 0
set_option maxHeartbeats 400000 in
theorem side_c (t s e k : Int) (w : World) (hs : -9223372036854775808 ≤ s ∧ s ≤ 9223372036854775807) (he : -9223372036854775808 ≤ e ∧ e ≤ 9223372036854775807) (hk : -9223372036854775808 ≤ k ∧ k ≤ 9223372036854775807) :
    Calls Try.prog 15 #[.int .i64 t, .int .i64 s, .int .i64 e, .int .i64 k] w fun x w' => x = .returned (.int .i64 (side t s e k)) ∧ Ext w w' := by
  have HS := Lib.hid hs
  have HE := Lib.hid he
  have HK := Lib.hid hk
  clear hs he hk
  go_enter Try.func15, Try.ntmps15
  go_wp2_with fail
  (with_reducible refine (window_c s e k _ HS.out HE.out HK.out).mono ?_)
  rintro x w1 ⟨rfl, hx⟩
  have HX := Lib.hid hx
  clear hx
  go_wp2_with fail
  all_goals
    go_ret
    refine ⟨ret_i64 ?_, HX.out⟩
    unfold side
    split <;> (try split) <;> omega
set_option maxHeartbeats 400000 in
theorem rside_c (t s e k : Int) (w : World) (hs : -9223372036854775808 ≤ s ∧ s ≤ 9223372036854775807) (he : -9223372036854775808 ≤ e ∧ e ≤ 9223372036854775807) (hk : -9223372036854775808 ≤ k ∧ k ≤ 9223372036854775807) :
    Calls Try.prog 16 #[.int .i64 t, .int .i64 s, .int .i64 e, .int .i64 k] w fun x w' => x = .returned (.int .i64 (side t s e k)) ∧ w = w' := by
  have HS := Lib.hid hs
  have HE := Lib.hid he
  have HK := Lib.hid hk
  clear hs he hk
  by_cases h1 : t < sat (s - k)
  · go_enter Try.func16, Try.ntmps16
    go_wp2_with fail
    (with_reducible refine (rsub_c s k _ HS.out HK.out).mono ?_)
    rintro x w' ⟨rfl, rfl⟩
    go_wp2_with fail
    go_ret
    exact ⟨ret_i64 (by unfold side; split <;> omega), rfl⟩
  · by_cases h2 : sat (e + k) < t
    all_goals
      go_enter Try.func16, Try.ntmps16
      go_wp2_with fail
      (with_reducible refine (rsub_c s k _ HS.out HK.out).mono ?_)
      rintro x w' ⟨rfl, rfl⟩
      go_wp2_with fail
      (with_reducible refine (radd_c e k _ HE.out HK.out).mono ?_)
      rintro x w' ⟨rfl, rfl⟩
      go_wp2_with fail
      go_ret
      exact ⟨ret_i64 (by unfold side; split <;> (try split) <;> omega), rfl⟩

set_option maxHeartbeats 400000 in
theorem awake_c (w : World) : Calls Try.prog 7 #[] w fun e w' => e = .returned (.bool true) ∧ Ext w w' := by
  go_enter Try.func7, Try.ntmps7
  go_wp2_with fail
  (with_reducible refine (window_c 10 20 1 _ (by omega) (by omega) (by omega)).mono ?_)
  rintro x w1 ⟨rfl, hx⟩
  rw [show sat (10 - 1) = 9 from rfl, show sat (20 + 1) = 21 from rfl]
  have HX := Lib.hid hx
  clear hx
  go_wp2_with fail
  (with_reducible refine (add_one 9223372036854775807 5 _ _ _ (by omega) (by omega) (new_of _ _)).mono ?_)
  rintro x w' ⟨rfl, rfl⟩
  rw [show sat (9223372036854775807 + 5) = 9223372036854775807 from rfl]
  go_wp2_with fail
  (with_reducible refine (sub_c (-9223372036854775808) 1 _ (by omega) (by omega)).mono ?_)
  rintro x w' ⟨rfl, rfl⟩
  rw [show sat (-9223372036854775808 - 1) = -9223372036854775808 from rfl]
  go_wp2_with fail
  (with_reducible refine (side_c 9 10 20 1 _ (by omega) (by omega) (by omega)).mono ?_)
  rintro x w2 ⟨rfl, hx2⟩
  rw [show side 9 10 20 1 = 0 from rfl]
  have HX2 := Lib.hid hx2
  clear hx2
  go_wp2_with fail
  (with_reducible refine (apart_c 3 10 _ (by omega) (by omega)).mono ?_)
  rintro x w' ⟨rfl, rfl⟩
  rw [show dist 3 10 = 7 from rfl]
  go_wp2_with fail
  refine (most_c none 0 [] _ (RL.nil _ _) (by simp)).mono ?_
  rintro x w' ⟨rfl, rfl⟩
  rw [show mosts (-9223372036854775808) [] = -9223372036854775808 from rfl]
  go_wp2_with fail
  refine (add_c 4 none 0 [] _ (by omega) (RL.nil _ _) (fun z hz => by simp at hz) (by simp)).mono ?_
  rintro x w' ⟨rfl, rfl⟩
  rw [show sums 4 [] = 4 from rfl]
  go_wp2_with fail
  go_ret
  exact ⟨rfl, (HX.out.tr (Ext.alloc _ _)).tr HX2.out⟩

end Go.Proofs.Ytcjihcjjhbbjaaa
