/-
  WireParts: what the law's call does.
-/
import Derived.Test.YtbjclahjcjpfoaaAwake01
namespace Go.Proofs.Ytbjclahjcjpfoaa
open Go.RowKit

set_option maxHeartbeats 1000000 in
theorem parts_out (A : Option Addr) (c : Nat) (b : List UInt8) (n m : Int) (w : World) (hn : -9223372036854775808 ≤ n ∧ n ≤ 9223372036854775807) (hm : -9223372036854775808 ≤ m ∧ m ≤ 9223372036854775807)
    (hl : b.length ≤ 9223372036854775807) (h : 300 < b.length ∨ n < 0 ∨ m < 0 ∨ 1000 < n ∨ 1000 < m) :
    Calls Try.prog 7 #[.slice A b.length c, .int .i64 n, .int .i64 m] w fun e w' => e = .returned (.bool true) ∧ Ext w w' := by
  obtain ⟨hn1, hn2⟩ := hn
  obtain ⟨hm1, hm2⟩ := hm
  have h' : 300 < b.length ∨ (b.length ≤ 300 ∧ n < 0) ∨ (b.length ≤ 300 ∧ 0 ≤ n ∧ m < 0) ∨ (b.length ≤ 300 ∧ 0 ≤ n ∧ 0 ≤ m ∧ 1000 < n) ∨ (b.length ≤ 300 ∧ 0 ≤ n ∧ 0 ≤ m ∧ n ≤ 1000 ∧ 1000 < m) := by omega
  clear h
  rcases h' with h1 | ⟨h1, h2⟩ | ⟨h1, h2, h3⟩ | ⟨h1, h2, h3, h4⟩ | ⟨h1, h2, h3, h4, h5⟩
  all_goals
    go_enter Try.func7, Try.ntmps7
    go_wp2_with fail
    refine (awake_c _).mono ?_
    rintro e w1 ⟨rfl, hx1⟩
    go_wp2_with fail
    refine (awake_c _).mono ?_
    rintro e w2 ⟨rfl, hx2⟩
    go_wp2_with fail
    go_ret
    exact ⟨rfl, hx1.tr hx2⟩

set_option maxHeartbeats 1000000 in
theorem parts_over (A : Option Addr) (c : Nat) (b : List UInt8) (S : Nat → TypeId → Prop) (n m : Nat) (w : World) (h : RB w S A b) (hl : b.length ≤ 300) (hn : n ≤ 1000) (hm : m ≤ 1000) (ho : b.length < n + m) :
    Calls Try.prog 7 #[.slice A b.length c, .int .i64 n, .int .i64 m] w fun e w' => e = .returned (.bool true) ∧ Ext w w' := by
  have H := Lib.hid h
  clear h
  go_enter Try.func7, Try.ntmps7
  go_wp2_with fail
  refine (awake_c _).mono ?_
  rintro e w1 ⟨rfl, hx1⟩
  go_wp2_with fail
  refine (new_c A c b S _ (H.out.ext hx1) (by omega)).mono ?_
  rintro e w2 ⟨g, R, rfl, hg2, hr2, hx2⟩
  have HR2 := Lib.hid hr2
  clear hr2
  go_wp2_with fail
  refine (new_c A c b S _ ((H.out.ext hx1).ext hx2) (by omega)).mono ?_
  rintro e w3 ⟨g', R', rfl, hg3, hr3, hx3⟩
  have HR3 := Lib.hid hr3
  clear hr3
  have HQ3 := Lib.hid (HR2.out.ext hx3)
  have hne : g < g' := by
    obtain ⟨_, hh⟩ := HR2.out.at_
    have := lt_of_some hh
    omega
  go_wp2_with fail
  have h1 := tk_len n b false
  have hb1 : (tk n b false).left.length ≤ 300 := by omega
  clear h1
  refine (take_any (n : Int) _ HQ3.out (NoRd.u8 _ _) (by omega) ⟨by omega, by omega⟩).mono ?_
  rintro e w4 ⟨B4, c4, rfl, ho4, hr4, hg4⟩
  have HR4 := Lib.hid hr4
  have HQ4 := Lib.hid (HR3.out.rd HQ3.out hg4 (NoRd.u8 _ _) (by omega))
  clear hr4 ho4
  go_wp2_with fail
  refine (take_any (m : Int) _ HR4.out (NoRd.u8 _ _) (by omega) ⟨by omega, by omega⟩).mono ?_
  rintro e w5 ⟨B5, c5, rfl, ho5, hr5, hg5⟩
  have HR5 := Lib.hid hr5
  have HQ5 := Lib.hid (HQ4.out.rd HR4.out hg5 (NoRd.u8 _ _) (by omega))
  have hbad : (tk m (tk n b false).left (tk n b false).bad).bad = true ∧ (tk m (tk n b false).left (tk n b false).bad).got = [] := by
    unfold tk Tk.no
    by_cases hc : false = true ∨ (n : Int) < 0 ∨ (b.length : Int) < n
    · rw [if_pos hc]; simp
    · rw [if_neg hc]
      rw [if_pos (by simp only [not_or] at hc; right; right; simp only [Int.toNat_natCast, List.length_drop]; omega)]
      simp
  rw [hbad.2]
  have HB := Lib.hid hbad
  clear hr5 ho5 hbad
  go_wp2_with fail
  refine (take_any ((n : Int) + (m : Int)) _ HQ5.out (NoRd.u8 _ _) (by omega) ⟨by omega, by omega⟩).mono ?_
  rintro e w6 ⟨B6, c6, rfl, ho6, hr6, hg6⟩
  have hbad : (tk ((n : Int) + (m : Int)) b false).bad = true ∧ (tk ((n : Int) + (m : Int)) b false).got = [] := by
    unfold tk Tk.no
    rw [if_pos (by right; right; omega)]
    simp
  rw [hbad.2]
  have HB6 := Lib.hid hbad
  have HR6 := Lib.hid hr6
  have HS6 := Lib.hid (HR5.out.rd HQ5.out hg6 (NoRd.u8 _ _) (by omega))
  clear hr6 ho6 hbad
  go_wp2_with fail
  refine (bad_c _ HS6.out).mono ?_
  rintro e w' ⟨rfl, rfl⟩
  rw [HB.out.1]
  go_wp2_with fail
  refine (bad_c _ HR6.out).mono ?_
  rintro e w' ⟨rfl, rfl⟩
  rw [HB6.out.1]
  go_wp2_with fail
  go_ret
  refine ⟨rfl, ?_⟩
  have hs1 := hx1.size
  have hs2 := hx2.size
  have h4 := grown_new ((hx1.tr hx2).tr hx3) hg4 (fun k hk => by simp at hk; omega)
  have h5 := grown_new h4 hg5 (fun k hk => by simp at hk; omega)
  exact grown_new h5 hg6 (fun k hk => by simp at hk; omega)


/-- two owned slices of bytes in a literal of two rows -/
theorem two_rows (w : World) (T : TypeId) (A B : Option Addr) (c d : Nat) (a b : List UInt8) (S U : Nat → TypeId → Prop) (ha : RB w S A a) (hb : RB w U B b) :
    RBs (w.alloc (.cells #[.slice A a.length c, .slice B b.length d] T)) (fun _ _ => True) (fun _ _ => True) (some ⟨w.heap.size, 0, none⟩) [a, b] := by
  intro _
  refine ⟨_, 0, _, _, _, rfl, new_of _ _, trivial, fun j m hj => ?_⟩
  match j, hj with
  | 0, hj =>
    injection hj with hj
    subst hj
    exact ⟨A, c, rfl, (ha.ext (Ext.alloc _ _)).more (fun _ _ _ => trivial)⟩
  | 1, hj =>
    injection hj with hj
    subst hj
    exact ⟨B, d, rfl, (hb.ext (Ext.alloc _ _)).more (fun _ _ _ => trivial)⟩

set_option maxHeartbeats 1000000 in
theorem parts_in (A : Option Addr) (c : Nat) (b : List UInt8) (S : Nat → TypeId → Prop) (n m : Nat) (w : World) (h : RB w S A b) (hl : b.length ≤ 300) (hn : n ≤ 1000) (hm : m ≤ 1000) (ho : n + m ≤ b.length) :
    Calls Try.prog 7 #[.slice A b.length c, .int .i64 n, .int .i64 m] w fun e w' => e = .returned (.bool true) ∧ Ext w w' := by
  have H := Lib.hid h
  clear h
  go_enter Try.func7, Try.ntmps7
  go_wp2_with fail
  refine (awake_c _).mono ?_
  rintro e w1 ⟨rfl, hx1⟩
  go_wp2_with fail
  refine (new_c A c b S _ (H.out.ext hx1) (by omega)).mono ?_
  rintro e w2 ⟨g, R, rfl, hg2, hr2, hx2⟩
  have HR2 := Lib.hid hr2
  clear hr2
  go_wp2_with fail
  refine (new_c A c b S _ ((H.out.ext hx1).ext hx2) (by omega)).mono ?_
  rintro e w3 ⟨g', R', rfl, hg3, hr3, hx3⟩
  have HR3 := Lib.hid hr3
  clear hr3
  have HQ3 := Lib.hid (HR2.out.ext hx3)
  have hne : g < g' := by
    obtain ⟨_, hh⟩ := HR2.out.at_
    have := lt_of_some hh
    omega
  have x : ∃ x, x = b.take n := ⟨_, rfl⟩
  obtain ⟨x, hx⟩ := x
  have hxl : x.length = n := by rw [hx, List.length_take]; omega
  obtain ⟨y, hy⟩ : ∃ y, y = (b.drop n).take m := ⟨_, rfl⟩
  have hyl : y.length = m := by rw [hy, List.length_take, List.length_drop]; omega
  obtain ⟨z, hz⟩ : ∃ z, z = b.take (n + m) := ⟨_, rfl⟩
  have hxyz : x ++ y = z := by rw [hx, hy, hz, List.take_add]
  have HX := Lib.hid hx
  have HY := Lib.hid hy
  have HZ := Lib.hid hz
  have HXL := Lib.hid hxl
  have HYL := Lib.hid hyl
  have HXYZ := Lib.hid hxyz
  clear hx hy hz hxl hyl hxyz
  go_wp2_with fail
  refine (take_c n _ HQ3.out (NoRd.u8 _ _) (by omega) (by omega)).mono ?_
  rintro e w4 ⟨B4, c4, rfl, ho4, hr4, hg4⟩
  rw [← HX.out] at ho4 ⊢
  have HO4 := Lib.hid ho4
  have HR4 := Lib.hid hr4
  have HQ4 := Lib.hid (HR3.out.rd HQ3.out hg4 (NoRd.u8 _ _) (by omega))
  clear hr4 ho4
  go_wp2_with fail
  refine (take_c m _ HR4.out (NoRd.u8 _ _) (by rw [List.length_drop]; omega) (by rw [List.length_drop]; omega)).mono ?_
  rintro e w5 ⟨B5, c5, rfl, ho5, hr5, hg5⟩
  rw [← HY.out] at ho5 ⊢
  have HO5 := Lib.hid ho5
  have HX5 := Lib.hid (HO4.out.rb.rd HR4.out hg5 (NoRd.u8 _ _))
  have HR5 := Lib.hid hr5
  have HQ5 := Lib.hid (HQ4.out.rd HR4.out hg5 (NoRd.u8 _ _) (by omega))
  clear hr5 ho5
  go_wp2_with fail
  refine (take_c (n + m) _ HQ5.out (NoRd.u8 _ _) (by omega) (by omega)).mono ?_
  rintro e w6 ⟨B6, c6, rfl, ho6, hr6, hg6⟩
  rw [← HZ.out] at ho6 ⊢
  have HO6 := Lib.hid ho6
  have HX6 := Lib.hid (HX5.out.rd HQ5.out hg6 (NoRd.u8 _ _))
  have HY6 := Lib.hid (HO5.out.rb.rd HQ5.out hg6 (NoRd.u8 _ _))
  have HR6 := Lib.hid hr6
  have HS6 := Lib.hid (HR5.out.rd HQ5.out hg6 (NoRd.u8 _ _) (by omega))
  clear hr6 ho6
  go_wp2_with fail
  have hrows := Lib.hid (two_rows w6 22 B4 B5 c4 c5 x y _ _ HX6.out HY6.out)
  have e2 : [x, y].flatten = z := by rw [← HXYZ.out]; simp
  have hj := rjoin_c _ 2 [x, y] _ _ _ hrows.out (by rw [e2, HZ.out, List.length_take]; omega) (by simp)
  rw [e2] at hj
  have HJ := Lib.hid hj
  clear hj e2
  refine HJ.out.mono ?_
  rintro e w7 ⟨B7, c7, rfl, ho7, hx7⟩
  have x67 : Ext w6 w7 := (Ext.alloc _ _).tr hx7
  have HO7 := Lib.hid ho7
  clear ho7
  go_wp2_with fail
  refine (same_x B7 B6 z z c7 c6 _ _ _ HO7.out.rb (HO6.out.rb.ext x67) (by rw [HZ.out, List.length_take]; omega) rfl).mono ?_
  rintro e w8 ⟨rfl, hx8⟩
  have x68 := x67.tr hx8
  go_wp2_with fail
  obtain ⟨q, hq⟩ : ∃ q : Nat, q = b.length - (n + m) := ⟨_, rfl⟩
  have e1 : (b.drop n).length - m = q := by rw [List.length_drop]; omega
  refine (left_c _ (HS6.out.ext x68)).mono ?_
  rintro e w' ⟨rfl, rfl⟩
  rw [List.length_drop, e1]
  have e3 : (b.drop (n + m)).length = q := by rw [List.length_drop]; omega
  have E3 := Lib.hid e3
  clear hq e1 e3
  go_wp2_with fail
  refine (left_c _ (HR6.out.ext x68)).mono ?_
  rintro e w' ⟨rfl, rfl⟩
  rw [E3.out]
  go_wp2_with fail
  refine (bad_c _ (HS6.out.ext x68)).mono ?_
  rintro e w' ⟨rfl, rfl⟩
  go_wp2_with fail
  go_ret
  refine ⟨rfl, ?_⟩
  have hs1 := hx1.size
  have hs2 := hx2.size
  have h4 := grown_new ((hx1.tr hx2).tr hx3) hg4 (fun k hk => by simp at hk; omega)
  have h5 := grown_new h4 hg5 (fun k hk => by simp at hk; omega)
  exact (grown_new h5 hg6 (fun k hk => by simp at hk; omega)).tr x68


theorem wireParts_walk (a0 : Option Addr) (len0 cap0 : Nat) (z0 : List Int) (a1 a2 : Int) (w : World) (w0 : IsRow .u8 w a0 len0 cap0 z0) (w1 : (Lit.int .i64 a1).wf = true) (w2 : (Lit.int .i64 a2).wf = true) :
    Calls Try.prog 7 #[.slice a0 len0 cap0, .int .i64 a1, .int .i64 a2] w fun e w' => e = .returned (.bool true) ∧ Below w.heap.size w w' := by
  obtain ⟨b, rfl, hl, hm, hb⟩ := row_bytes w0
  have b1 := bd_i64 w1
  have b2 := bd_i64 w2
  unfold maxLen at hm
  by_cases h : 300 < b.length ∨ a1 < 0 ∨ a2 < 0 ∨ 1000 < a1 ∨ 1000 < a2
  · exact parts_out a0 cap0 b a1 a2 w b1 b2 (by omega) h
  · simp only [not_or] at h
    obtain ⟨n, rfl⟩ := Int.eq_ofNat_of_zero_le (by omega : 0 ≤ a1)
    obtain ⟨m, rfl⟩ := Int.eq_ofNat_of_zero_le (by omega : 0 ≤ a2)
    by_cases ho : b.length < n + m
    · exact parts_over a0 cap0 b _ n m w hb (by omega) (by omega) (by omega) ho
    · exact parts_in a0 cap0 b _ n m w hb (by omega) (by omega) (by omega) (by omega)
end Go.Proofs.Ytbjclahjcjpfoaa
