/-
  WireFails: what the law's call does.
-/
import Derived.Test.YtbjclahjcjpfoaaAwake01
namespace Go.Proofs.Ytbjclahjcjpfoaa
open Go.RowKit

set_option maxHeartbeats 1000000 in
theorem wfails_out (A B : Option Addr) (c d : Nat) (b : List UInt8) (n : Int) (ps : List (Int × Int)) (w : World) (hl : b.length ≤ 9223372036854775807) (hp : ps.length ≤ 9223372036854775807) (h : 300 < b.length ∨ 50 < ps.length) :
    Calls Try.prog 6 #[.slice A b.length c, .int .u8 n, .slice B ps.length d] w fun e w' => e = .returned (.bool true) ∧ Ext w w' := by
  have h' : 300 < b.length ∨ (b.length ≤ 300 ∧ 50 < ps.length) := by omega
  clear h
  rcases h' with h1 | ⟨h1, h2⟩
  all_goals
    go_enter Try.func6, Try.ntmps6
    go_wp2_with fail
    refine (awake_c _).mono ?_
    rintro e w1 ⟨rfl, hx1⟩
    go_wp2_with fail
    refine (awake_c _).mono ?_
    rintro e w2 ⟨rfl, hx2⟩
    go_wp2_with fail
    go_ret
    exact ⟨rfl, hx1.tr hx2⟩

set_option maxHeartbeats 1000000 in
theorem wfails_in (A B : Option Addr) (c d : Nat) (b : List UInt8) (S : Nat → TypeId → Prop) (n : Int) (ps : List (Int × Int)) (w : World) (h : RB w S A b) (hn : 0 ≤ n ∧ n ≤ 255) (hl : b.length ≤ 300) (hpl : ps.length ≤ 50) (hp : RP w B ps)
    (hpb : ∀ p ∈ ps, (-9223372036854775808 ≤ p.1 ∧ p.1 ≤ 9223372036854775807) ∧ (-9223372036854775808 ≤ p.2 ∧ p.2 ≤ 9223372036854775807)) :
    Calls Try.prog 6 #[.slice A b.length c, .int .u8 n, .slice B ps.length d] w fun e w' => e = .returned (.bool true) ∧ Ext w w' := by
  have H := Lib.hid h
  have HP := Lib.hid hp
  have HPB := Lib.hid hpb
  obtain ⟨n, rfl⟩ := Int.eq_ofNat_of_zero_le hn.1
  obtain ⟨_, hn2⟩ := hn
  clear h hp hpb
  go_enter Try.func6, Try.ntmps6
  go_wp2_with fail
  refine (awake_c _).mono ?_
  rintro e w1 ⟨rfl, hx1⟩
  go_wp2_with fail
  refine (new_c A c b S _ (H.out.ext hx1) (by omega)).mono ?_
  rintro e w2 ⟨g, R, rfl, hg2, hr2, hx2⟩
  have HR2 := Lib.hid hr2
  clear hr2
  go_wp2_with fail
  refine (take_no _ _ HR2.out ⟨by omega, by omega⟩ (.inr (.inr (by omega)))).mono ?_
  rintro e w3 ⟨rfl, hr3, hg3⟩
  have HR3 := Lib.hid hr3
  clear hr3
  go_wp2_with fail
  refine (bad_nil _).mono ?_
  rintro e w' ⟨rfl, rfl⟩
  go_wp2_with fail
  refine (done_nil _).mono ?_
  rintro e w' ⟨rfl, rfl⟩
  go_wp2_with fail
  refine (left_nil _).mono ?_
  rintro e w' ⟨rfl, rfl⟩
  go_wp2_with fail
  refine (num_nil 1 _ (by omega)).mono ?_
  rintro e w' ⟨rfl, rfl⟩
  go_wp2_with fail
  refine (take_nil 0 _ (by omega)).mono ?_
  rintro e w' ⟨rfl, rfl⟩
  go_wp2_with fail
  refine (str_nil 1 _ (by omega)).mono ?_
  rintro e w' ⟨rfl, rfl⟩
  have x3 : Ext w w3 := grown_new (hx1.tr hx2) hg3 (fun k hk => by have := hx1.size; simp at hk; omega)
  have hge : w.heap.size ≤ g := by have := hx1.size; omega
  go_wp2_with fail
  go_loopw [9] (fun i wr => ∃ j : Nat, j ≤ ps.length ∧ i = .int .i64 j ∧ Hid (Rd wr (fun k t => w1.heap.size ≤ k ∧ t = 5 ∧ R = some k) g [] true) ∧ Ext w wr) (fun i _ => ps.length - (intOf i).toNat)
  case atStart => exact ⟨0, Nat.zero_le _, rfl, HR3, x3⟩
  case round =>
    obtain ⟨j, hj, rfl, HR, hxr⟩ := hrel
    by_cases hlt : j < ps.length
    · obtain ⟨g', off, rfl, hcs⟩ := HP.out.cell hlt
      obtain ⟨_, hb1, hb2⟩ := HPB.out ps[j] (List.getElem_mem _)
      obtain ⟨k, hk⟩ : ∃ k, k = (ps[j]).2 := ⟨_, rfl⟩
      rw [← hk] at hb1 hb2 hcs
      have HC := Lib.hid hcs
      have HK := Lib.hid hk
      clear hk hcs
      have c0 := (HC.out wr hxr).2
      go_wp2_with fail
      refine (left_c _ HR.out).mono ?_
      rintro e w' ⟨rfl, rfl⟩
      go_wp2_with fail
      refine (bad_c _ HR.out).mono ?_
      rintro e w' ⟨rfl, rfl⟩
      go_wp2_with fail
      refine (done_c _ HR.out).mono ?_
      rintro e w' ⟨rfl, rfl⟩
      go_wp2_with fail
      refine (num_no k _ HR.out (.inl rfl)).mono ?_
      rintro e w4 ⟨rfl, hr4, hg4⟩
      have HR4 := Lib.hid hr4
      have x4 : Ext w w4 := grown_new hxr hg4 (fun k hk => by simp at hk; omega)
      have c4 := (HC.out w4 x4).2
      clear hr4
      go_wp2_with fail
      refine (take_no k _ HR4.out ⟨hb1, hb2⟩ (.inl rfl)).mono ?_
      rintro e w5 ⟨rfl, hr5, hg5⟩
      have HR5 := Lib.hid hr5
      have x5 : Ext w w5 := grown_new x4 hg5 (fun k hk => by simp at hk; omega)
      have c5 := (HC.out w5 x5).2
      clear hr5
      go_wp2_with fail
      refine (str_no k _ HR5.out (NoRd.u8 _ _) (.inl rfl)).mono ?_
      rintro e w6 ⟨rfl, hr6, hg6⟩
      have HR6 := Lib.hid hr6
      have x6 : Ext w w6 := grown_new x5 hg6 (fun k hk => by simp at hk; omega)
      clear hr6
      go_wp2_with fail
      go_roundw
      case rel => exact ⟨j + 1, by omega, by go_num, HR6, x6⟩
      case measure => simp [intOf]; omega
    · go_wp2_with fail
      refine (bad_c _ HR.out).mono ?_
      rintro e w' ⟨rfl, rfl⟩
      go_wp2_with fail
      go_ret
      exact ⟨rfl, hxr⟩

theorem wireFails_walk (a0 : Option Addr) (len0 cap0 : Nat) (z0 : List Int) (a1 : Int) (a2 : Option Addr) (len2 cap2 : Nat) (z2 : List (Int × Int)) (w : World) (w0 : IsRow .u8 w a0 len0 cap0 z0) (w1 : (Lit.int .u8 a1).wf = true) (w2 : IsPairs w a2 len2 cap2 z2) :
    Calls Try.prog 6 #[.slice a0 len0 cap0, .int .u8 a1, .slice a2 len2 cap2] w fun e w' => e = .returned (.bool true) ∧ Below w.heap.size w w' := by
  obtain ⟨b, rfl, hl, hm, hb⟩ := row_bytes w0
  obtain ⟨rfl, hl2, hm2, hp, hpb⟩ := w2
  have b1 := bd_u8 w1
  unfold maxLen at hm hm2
  by_cases h : 300 < b.length ∨ 50 < z2.length
  · exact wfails_out a0 a2 cap0 cap2 b a1 z2 w (by omega) (by omega) h
  · exact wfails_in a0 a2 cap0 cap2 b _ a1 z2 w hb b1 (by omega) (by omega) hp hpb
end Go.Proofs.Ytbjclahjcjpfoaa
