/-
  The laws of layer 3: what each call does.
-/
import Derived.Test.YtcjihcjjhbbjaaaTimA
namespace Go.Proofs.Ytcjihcjjhbbjaaa
open Go.RowKit

set_option maxHeartbeats 1000000 in
theorem timesMatchesReference_walk (a b : Int) (w : World) (ha : (Lit.int .i64 a).wf = true) (hb : (Lit.int .i64 b).wf = true) :
    Calls Try.prog 3 #[.int .i64 a, .int .i64 b] w fun e w' => e = .returned (.bool true) ∧ Ext w w' := by
  obtain ⟨ha1, ha2⟩ := bd_i64 ha
  obtain ⟨hb1, hb2⟩ := bd_i64 hb
  clear ha hb
  go_enter Try.func3, Try.ntmps3
  go_wp2_with fail
  refine (awake_c _).mono ?_
  rintro e w1 ⟨rfl, hx⟩
  have HX := Lib.hid hx
  clear hx
  go_wp2_with (first
    | (go_at_call 8; refine (add_one a b _ _ _ (by omega) (by omega) (new_of _ _)).mono ?_; rintro e w' ⟨rfl, rfl⟩)
    | (go_at_call 9; refine (radd_c a b _ (by omega) (by omega)).mono ?_; rintro e w' ⟨rfl, rfl⟩)
    | (go_at_call 10; refine (sub_c a b _ (by omega) (by omega)).mono ?_; rintro e w' ⟨rfl, rfl⟩)
    | (go_at_call 11; refine (rsub_c a b _ (by omega) (by omega)).mono ?_; rintro e w' ⟨rfl, rfl⟩)
    | (go_at_call 12; refine (apart_c a b _ (by omega) (by omega)).mono ?_; rintro e w' ⟨rfl, rfl⟩)
    | (go_at_call 13; refine (rapart_c a b _ (by omega) (by omega)).mono ?_; rintro e w' ⟨rfl, rfl⟩))
  go_ret
  exact ⟨rfl, HX.out.tr (Ext.alloc _ _)⟩

theorem dist_comm (a b : Int) : dist b a = dist a b := by unfold dist; congr 1; omega
theorem dist_zero (a b : Int) : ((dist a b == 0) == (a == b)) = true := by
  have h : dist a b = 0 ↔ a = b := by
    unfold dist sat
    split <;> (try split) <;> omega
  by_cases e : a = b
  · rw [beq_t e, beq_t (h.2 e)]; rfl
  · rw [beq_f e, beq_f (fun k => e (h.1 k))]; rfl
theorem ret_bool {a b : Bool} (h : a = b) : Ending.returned (.bool a) = .returned (.bool b) := by rw [h]
theorem dist_pos (a b : Int) : 0 ≤ dist a b := by
  unfold dist sat
  split <;> (try split) <;> omega

theorem new_of2 (w : World) (o o' : Obj) : ((w.alloc o).alloc o').heap[w.heap.size + 1]? = some o' := by
  have h := new_of (w.alloc o) o'
  rw [show (w.alloc o).heap.size = w.heap.size + 1 from Array.size_push ..] at h
  exact h
theorem new_of3 (w : World) (o o' o'' : Obj) : (((w.alloc o).alloc o').alloc o'').heap[w.heap.size + 1 + 1]? = some o'' := by
  have h := new_of2 (w.alloc o) o' o''
  rw [show (w.alloc o).heap.size = w.heap.size + 1 from Array.size_push ..] at h
  exact h

set_option maxHeartbeats 1000000 in
theorem order_tt (a b c : Int) (w : World) (ha : -9223372036854775808 ≤ a ∧ a ≤ 9223372036854775807) (hb : -9223372036854775808 ≤ b ∧ b ≤ 9223372036854775807) (hc : -9223372036854775808 ≤ c ∧ c ≤ 9223372036854775807)
    (t1 : decide (a ≤ b) = true) (t5 : decide (sat (b + c) < sat (a + c)) = false) (t6 : decide (sat (b - c) < sat (a - c)) = false)
    (t2 : decide (0 ≤ c) = true) (t7 : decide (sat (a + c) < a) = false) (t8 : decide (a < sat (a - c)) = false) (t3 : decide (0 ≤ dist a b) = true) (hd : dist b a = dist a b) (t4 : ((dist a b == 0) == (a == b)) = true) :
    Calls Try.prog 5 #[.int .i64 a, .int .i64 b, .int .i64 c] w fun e w' => e = .returned (.bool true) ∧ Ext w w' := by
  have HA := Lib.hid ha
  have HB := Lib.hid hb
  have HC := Lib.hid hc
  have HD := Lib.hid hd
  have H4 := Lib.hid t4
  clear ha hb hc hd t4
  go_enter Try.func5, Try.ntmps5
  go_wp2_with fail
  refine (awake_c _).mono ?_
  rintro e w1 ⟨rfl, hx⟩
  have HX := Lib.hid hx
  clear hx
  go_wp2_with fail
  (with_reducible refine (add_one a c _ _ _ HA.out HC.out (new_of _ _)).mono ?_)
  rintro e w' ⟨rfl, rfl⟩
  go_wp2_with fail
  (with_reducible refine (add_one b c _ _ _ HB.out HC.out (new_of2 _ _ _)).mono ?_)
  rintro e w' ⟨rfl, rfl⟩
  go_wp2_with fail
  (with_reducible refine (sub_c a c _ HA.out HC.out).mono ?_)
  rintro e w' ⟨rfl, rfl⟩
  go_wp2_with fail
  (with_reducible refine (sub_c b c _ HB.out HC.out).mono ?_)
  rintro e w' ⟨rfl, rfl⟩
  go_wp2_with fail
  (with_reducible refine (add_one a c _ _ _ HA.out HC.out (new_of3 _ _ _ _)).mono ?_)
  rintro e w' ⟨rfl, rfl⟩
  go_wp2_with fail
  (with_reducible refine (sub_c a c _ HA.out HC.out).mono ?_)
  rintro e w' ⟨rfl, rfl⟩
  go_wp2_with fail
  (with_reducible refine (apart_c a b _ HA.out HB.out).mono ?_)
  rintro e w' ⟨rfl, rfl⟩
  go_wp2_with fail
  (with_reducible refine (apart_c b a _ HB.out HA.out).mono ?_)
  rintro e w' ⟨rfl, rfl⟩
  rw [HD.out]
  go_wp2_with fail
  go_ret
  exact ⟨ret_bool H4.out, HX.out.tr (((Ext.alloc _ _).tr (Ext.alloc _ _)).tr (Ext.alloc _ _))⟩

set_option maxHeartbeats 1000000 in
theorem order_tf (a b c : Int) (w : World) (ha : -9223372036854775808 ≤ a ∧ a ≤ 9223372036854775807) (hb : -9223372036854775808 ≤ b ∧ b ≤ 9223372036854775807) (hc : -9223372036854775808 ≤ c ∧ c ≤ 9223372036854775807)
    (t1 : decide (a ≤ b) = true) (t5 : decide (sat (b + c) < sat (a + c)) = false) (t6 : decide (sat (b - c) < sat (a - c)) = false)
    (t2 : decide (0 ≤ c) = false) (t3 : decide (0 ≤ dist a b) = true) (hd : dist b a = dist a b) (t4 : ((dist a b == 0) == (a == b)) = true) :
    Calls Try.prog 5 #[.int .i64 a, .int .i64 b, .int .i64 c] w fun e w' => e = .returned (.bool true) ∧ Ext w w' := by
  have HA := Lib.hid ha
  have HB := Lib.hid hb
  have HC := Lib.hid hc
  have HD := Lib.hid hd
  have H4 := Lib.hid t4
  clear ha hb hc hd t4
  go_enter Try.func5, Try.ntmps5
  go_wp2_with fail
  refine (awake_c _).mono ?_
  rintro e w1 ⟨rfl, hx⟩
  have HX := Lib.hid hx
  clear hx
  go_wp2_with fail
  (with_reducible refine (add_one a c _ _ _ HA.out HC.out (new_of _ _)).mono ?_)
  rintro e w' ⟨rfl, rfl⟩
  go_wp2_with fail
  (with_reducible refine (add_one b c _ _ _ HB.out HC.out (new_of2 _ _ _)).mono ?_)
  rintro e w' ⟨rfl, rfl⟩
  go_wp2_with fail
  (with_reducible refine (sub_c a c _ HA.out HC.out).mono ?_)
  rintro e w' ⟨rfl, rfl⟩
  go_wp2_with fail
  (with_reducible refine (sub_c b c _ HB.out HC.out).mono ?_)
  rintro e w' ⟨rfl, rfl⟩
  go_wp2_with fail
  (with_reducible refine (apart_c a b _ HA.out HB.out).mono ?_)
  rintro e w' ⟨rfl, rfl⟩
  go_wp2_with fail
  (with_reducible refine (apart_c b a _ HB.out HA.out).mono ?_)
  rintro e w' ⟨rfl, rfl⟩
  rw [HD.out]
  go_wp2_with fail
  go_ret
  exact ⟨ret_bool H4.out, HX.out.tr ((Ext.alloc _ _).tr (Ext.alloc _ _))⟩

set_option maxHeartbeats 1000000 in
theorem order_ft (a b c : Int) (w : World) (ha : -9223372036854775808 ≤ a ∧ a ≤ 9223372036854775807) (hb : -9223372036854775808 ≤ b ∧ b ≤ 9223372036854775807) (hc : -9223372036854775808 ≤ c ∧ c ≤ 9223372036854775807)
    (t1 : decide (a ≤ b) = false)
    (t2 : decide (0 ≤ c) = true) (t7 : decide (sat (a + c) < a) = false) (t8 : decide (a < sat (a - c)) = false) (t3 : decide (0 ≤ dist a b) = true) (hd : dist b a = dist a b) (t4 : ((dist a b == 0) == (a == b)) = true) :
    Calls Try.prog 5 #[.int .i64 a, .int .i64 b, .int .i64 c] w fun e w' => e = .returned (.bool true) ∧ Ext w w' := by
  have HA := Lib.hid ha
  have HB := Lib.hid hb
  have HC := Lib.hid hc
  have HD := Lib.hid hd
  have H4 := Lib.hid t4
  clear ha hb hc hd t4
  go_enter Try.func5, Try.ntmps5
  go_wp2_with fail
  refine (awake_c _).mono ?_
  rintro e w1 ⟨rfl, hx⟩
  have HX := Lib.hid hx
  clear hx
  go_wp2_with fail
  (with_reducible refine (add_one a c _ _ _ HA.out HC.out (new_of _ _)).mono ?_)
  rintro e w' ⟨rfl, rfl⟩
  go_wp2_with fail
  (with_reducible refine (sub_c a c _ HA.out HC.out).mono ?_)
  rintro e w' ⟨rfl, rfl⟩
  go_wp2_with fail
  (with_reducible refine (apart_c a b _ HA.out HB.out).mono ?_)
  rintro e w' ⟨rfl, rfl⟩
  go_wp2_with fail
  (with_reducible refine (apart_c b a _ HB.out HA.out).mono ?_)
  rintro e w' ⟨rfl, rfl⟩
  rw [HD.out]
  go_wp2_with fail
  go_ret
  exact ⟨ret_bool H4.out, HX.out.tr (Ext.alloc _ _)⟩

set_option maxHeartbeats 1000000 in
theorem order_ff (a b c : Int) (w : World) (ha : -9223372036854775808 ≤ a ∧ a ≤ 9223372036854775807) (hb : -9223372036854775808 ≤ b ∧ b ≤ 9223372036854775807) (hc : -9223372036854775808 ≤ c ∧ c ≤ 9223372036854775807)
    (t1 : decide (a ≤ b) = false)
    (t2 : decide (0 ≤ c) = false) (t3 : decide (0 ≤ dist a b) = true) (hd : dist b a = dist a b) (t4 : ((dist a b == 0) == (a == b)) = true) :
    Calls Try.prog 5 #[.int .i64 a, .int .i64 b, .int .i64 c] w fun e w' => e = .returned (.bool true) ∧ Ext w w' := by
  have HA := Lib.hid ha
  have HB := Lib.hid hb
  have HC := Lib.hid hc
  have HD := Lib.hid hd
  have H4 := Lib.hid t4
  clear ha hb hc hd t4
  go_enter Try.func5, Try.ntmps5
  go_wp2_with fail
  refine (awake_c _).mono ?_
  rintro e w1 ⟨rfl, hx⟩
  have HX := Lib.hid hx
  clear hx
  go_wp2_with fail
  (with_reducible refine (apart_c a b _ HA.out HB.out).mono ?_)
  rintro e w' ⟨rfl, rfl⟩
  go_wp2_with fail
  (with_reducible refine (apart_c b a _ HB.out HA.out).mono ?_)
  rintro e w' ⟨rfl, rfl⟩
  rw [HD.out]
  go_wp2_with fail
  go_ret
  exact ⟨ret_bool H4.out, HX.out.tr (Ext.refl _)⟩

theorem timesOrder_walk (a b c : Int) (w : World) (ha : (Lit.int .i64 a).wf = true) (hb : (Lit.int .i64 b).wf = true) (hc : (Lit.int .i64 c).wf = true) :
    Calls Try.prog 5 #[.int .i64 a, .int .i64 b, .int .i64 c] w fun e w' => e = .returned (.bool true) ∧ Ext w w' := by
  have ha := bd_i64 ha
  have hb := bd_i64 hb
  have hc := bd_i64 hc
  have t3 : decide (0 ≤ dist a b) = true := decide_eq_true (dist_pos a b)
  have m1 : 0 ≤ c → a ≤ sat (a + c) := fun h => by have := sat_mono (show a ≤ a + c by omega); rw [sat_in ha.1 ha.2] at this; exact this
  have m2 : 0 ≤ c → sat (a - c) ≤ a := fun h => by have := sat_mono (show a - c ≤ a by omega); rw [sat_in ha.1 ha.2] at this; exact this
  have k7 : 0 ≤ c → decide (sat (a + c) < a) = false := fun h => decide_eq_false (by have := m1 h; omega)
  have k8 : 0 ≤ c → decide (a < sat (a - c)) = false := fun h => decide_eq_false (by have := m2 h; omega)
  have k5 : a ≤ b → decide (sat (b + c) < sat (a + c)) = false := fun h => decide_eq_false (by have := sat_mono (show a + c ≤ b + c by omega); omega)
  have k6 : a ≤ b → decide (sat (b - c) < sat (a - c)) = false := fun h => decide_eq_false (by have := sat_mono (show a - c ≤ b - c by omega); omega)
  by_cases h1 : a ≤ b
  · by_cases h2 : 0 ≤ c
    · exact order_tt a b c w ha hb hc (decide_eq_true h1) (k5 h1) (k6 h1) (decide_eq_true h2) (k7 h2) (k8 h2) t3 (dist_comm a b) (dist_zero a b)
    · exact order_tf a b c w ha hb hc (decide_eq_true h1) (k5 h1) (k6 h1) (decide_eq_false h2) t3 (dist_comm a b) (dist_zero a b)
  · by_cases h2 : 0 ≤ c
    · exact order_ft a b c w ha hb hc (decide_eq_false h1) (decide_eq_true h2) (k7 h2) (k8 h2) t3 (dist_comm a b) (dist_zero a b)
    · exact order_ff a b c w ha hb hc (decide_eq_false h1) (decide_eq_false h2) t3 (dist_comm a b) (dist_zero a b)

/-! ## windows -/
theorem side_zero {t s e k : Int} : side t s e k = 0 ↔ sat (s - k) ≤ t ∧ t ≤ sat (e + k) := by
  unfold side
  split <;> (try split) <;> omega
theorem sat_sum_le {x y : Int} (hy : 0 ≤ y) (hx : -9223372036854775808 ≤ x ∧ x ≤ 9223372036854775807) : x ≤ sat (x + y) ∧ sat (x - y) ≤ x := by
  unfold sat
  constructor <;> split <;> (try split) <;> omega
theorem side_wide1 {t s e k m : Int} (h : side t s e k = 0) (hk : -9223372036854775808 ≤ k ∧ k ≤ 9223372036854775807) (hm : 0 ≤ m) : side t s e (sat (k + m)) = 0 := by
  rw [side_zero] at h ⊢
  have h1 := (sat_sum_le hm hk).1
  have h2 := sat_mono (show s - sat (k + m) ≤ s - k by omega)
  have h3 := sat_mono (show e + k ≤ e + sat (k + m) by omega)
  omega
theorem side_wide2 {t s e k m : Int} (h : side t s e k = 0) (hs : -9223372036854775808 ≤ s ∧ s ≤ 9223372036854775807) (hm : 0 ≤ m) : side t (sat (s - m)) e k = 0 := by
  rw [side_zero] at h ⊢
  have h1 := (sat_sum_le hm hs).2
  have h2 := sat_mono (show sat (s - m) - k ≤ s - k by omega)
  omega
theorem side_wide3 {t s e k m : Int} (h : side t s e k = 0) (he : -9223372036854775808 ≤ e ∧ e ≤ 9223372036854775807) (hm : 0 ≤ m) : side t s (sat (e + m)) k = 0 := by
  rw [side_zero] at h ⊢
  have h1 := (sat_sum_le hm he).1
  have h2 := sat_mono (show e + k ≤ sat (e + m) + k by omega)
  omega

set_option maxHeartbeats 1000000 in
theorem wide_out (t s e k m : Int) (w : World) (h : k < 0 ∨ m < 0) :
    Calls Try.prog 6 #[.int .i64 t, .int .i64 s, .int .i64 e, .int .i64 k, .int .i64 m] w fun x w' => x = .returned (.bool true) ∧ Ext w w' := by
  have h' : k < 0 ∨ (0 ≤ k ∧ m < 0) := by omega
  clear h
  rcases h' with h1 | ⟨h1, h2⟩
  all_goals
    go_enter Try.func6, Try.ntmps6
    go_wp2_with fail
    refine (awake_c _).mono ?_
    rintro x w1 ⟨rfl, hx1⟩
    go_wp2_with fail
    refine (awake_c _).mono ?_
    rintro x w2 ⟨rfl, hx2⟩
    go_wp2_with fail
    go_ret
    exact ⟨rfl, hx1.tr hx2⟩
set_option maxHeartbeats 1000000 in
theorem wide_not (t s e k m : Int) (w : World) (hk : 0 ≤ k) (hm : 0 ≤ m) (hs : -9223372036854775808 ≤ s ∧ s ≤ 9223372036854775807) (he : -9223372036854775808 ≤ e ∧ e ≤ 9223372036854775807) (hk' : k ≤ 9223372036854775807) (hn : (side t s e k != 0) = true) :
    Calls Try.prog 6 #[.int .i64 t, .int .i64 s, .int .i64 e, .int .i64 k, .int .i64 m] w fun x w' => x = .returned (.bool true) ∧ Ext w w' := by
  have HS := Lib.hid hs
  have HE := Lib.hid he
  clear hs he
  go_enter Try.func6, Try.ntmps6
  go_wp2_with fail
  refine (awake_c _).mono ?_
  rintro x w1 ⟨rfl, hx1⟩
  go_wp2_with fail
  (with_reducible refine (side_c t s e k _ HS.out HE.out ⟨by omega, hk'⟩).mono ?_)
  rintro x w2 ⟨rfl, hx2⟩
  go_wp2_with fail
  (with_reducible refine (rside_c t s e k _ HS.out HE.out ⟨by omega, hk'⟩).mono ?_)
  rintro x w' ⟨rfl, rfl⟩
  go_wp2_with fail
  go_ret
  exact ⟨rfl, hx1.tr hx2⟩
set_option maxHeartbeats 1000000 in
theorem wide_in (t s e k m : Int) (w : World) (hk : 0 ≤ k) (hm : 0 ≤ m) (hs : -9223372036854775808 ≤ s ∧ s ≤ 9223372036854775807) (he : -9223372036854775808 ≤ e ∧ e ≤ 9223372036854775807) (hk' : k ≤ 9223372036854775807) (hm' : m ≤ 9223372036854775807)
    (h0 : side t s e k = 0) (h1 : side t s e (sat (k + m)) = 0) (h2 : side t (sat (s - m)) e k = 0) (h3 : side t s (sat (e + m)) k = 0) :
    Calls Try.prog 6 #[.int .i64 t, .int .i64 s, .int .i64 e, .int .i64 k, .int .i64 m] w fun x w' => x = .returned (.bool true) ∧ Ext w w' := by
  have HS := Lib.hid hs
  have HE := Lib.hid he
  have H0 := Lib.hid h0
  have H1 := Lib.hid h1
  have H2 := Lib.hid h2
  have H3 := Lib.hid h3
  clear hs he h0 h1 h2 h3
  go_enter Try.func6, Try.ntmps6
  go_wp2_with fail
  refine (awake_c _).mono ?_
  rintro x w1 ⟨rfl, hx1⟩
  go_wp2_with fail
  (with_reducible refine (side_c t s e k _ HS.out HE.out ⟨by omega, hk'⟩).mono ?_)
  rintro x w2 ⟨rfl, hx2⟩
  rw [H0.out]
  go_wp2_with fail
  (with_reducible refine (radd_c k m _ ⟨by omega, hk'⟩ ⟨by omega, hm'⟩).mono ?_)
  rintro x w' ⟨rfl, rfl⟩
  go_wp2_with fail
  (with_reducible refine (side_c t s e (sat (k + m)) _ HS.out HE.out (sat_bd _)).mono ?_)
  rintro x w3 ⟨rfl, hx3⟩
  rw [H1.out]
  go_wp2_with fail
  (with_reducible refine (rsub_c s m _ HS.out ⟨by omega, hm'⟩).mono ?_)
  rintro x w' ⟨rfl, rfl⟩
  go_wp2_with fail
  (with_reducible refine (side_c t (sat (s - m)) e k _ (sat_bd _) HE.out ⟨by omega, hk'⟩).mono ?_)
  rintro x w4 ⟨rfl, hx4⟩
  rw [H2.out]
  go_wp2_with fail
  (with_reducible refine (radd_c e m _ HE.out ⟨by omega, hm'⟩).mono ?_)
  rintro x w' ⟨rfl, rfl⟩
  go_wp2_with fail
  (with_reducible refine (side_c t s (sat (e + m)) k _ HS.out (sat_bd _) ⟨by omega, hk'⟩).mono ?_)
  rintro x w5 ⟨rfl, hx5⟩
  rw [H3.out]
  go_wp2_with fail
  go_ret
  exact ⟨rfl, (((hx1.tr hx2).tr hx3).tr hx4).tr hx5⟩
theorem timesWide_walk (t s e k m : Int) (w : World) (_ht : (Lit.int .i64 t).wf = true) (hs : (Lit.int .i64 s).wf = true) (he : (Lit.int .i64 e).wf = true) (hk : (Lit.int .i64 k).wf = true) (hm : (Lit.int .i64 m).wf = true) :
    Calls Try.prog 6 #[.int .i64 t, .int .i64 s, .int .i64 e, .int .i64 k, .int .i64 m] w fun x w' => x = .returned (.bool true) ∧ Ext w w' := by
  have hs := bd_i64 hs
  have he := bd_i64 he
  have hk := bd_i64 hk
  have hm := bd_i64 hm
  by_cases h : k < 0 ∨ m < 0
  · exact wide_out t s e k m w h
  · by_cases h0 : side t s e k = 0
    · exact wide_in t s e k m w (by omega) (by omega) hs he hk.2 hm.2 h0 (side_wide1 h0 hk (by omega)) (side_wide2 h0 hs (by omega)) (side_wide3 h0 he (by omega))
    · exact wide_not t s e k m w (by omega) (by omega) hs he hk.2 (bne_t h0)

end Go.Proofs.Ytcjihcjjhbbjaaa
