/-
  Package tollref01 (the reference), reading, in one form: Take, Number, String as functions of what is left.
-/
import Derived.Test.YtgbdckiojjmncaaRefC
namespace Go.Proofs.Ytgbdckiojjmncaa
open Go.RowKit

theorem rtake_any (A : Option Addr) (c : Nat) (l : List UInt8) (bad : Bool) (S : Nat → TypeId → Prop) (n : Int) (w : World) (h : RB w S A l) (hc : l.length ≤ c) (hm : c ≤ maxLen) (hl : l.length ≤ 140737488355328) (hb : -9223372036854775808 ≤ n ∧ n ≤ 9223372036854775807) :
    Calls Try.prog 52 #[.agg #[.slice A l.length c, .bool bad], .int .i64 n] w fun e w' => ∃ A1 c1 A2 c2, e = .returned (.tuple #[.agg #[.slice A1 (tk n l bad).left.length c1, .bool (tk n l bad).bad], .slice A2 (tk n l bad).got.length c2]) ∧
      RB w' S A1 (tk n l bad).left ∧ (tk n l bad).left.length ≤ c1 ∧ c1 ≤ maxLen ∧ OwnB w' 5 w.heap.size A2 c2 (tk n l bad).got ∧ Ext w w' := by
  unfold tk
  by_cases hh : bad = true ∨ n < 0 ∨ (l.length : Int) < n
  · rw [if_pos hh]
    exact (rtake_no A c l bad n w hb hl hh).mono fun e w' ⟨he, hx⟩ => ⟨none, 0, none, 0, he, RB.nil _ _ _, by simp [Tk.no], by simp [maxLen], OwnB.nil _ _ _, hx⟩
  · rw [if_neg hh]
    simp only [not_or] at hh
    obtain ⟨h1, h2, h3⟩ := hh
    obtain ⟨k, rfl⟩ := Int.eq_ofNat_of_zero_le (by omega : 0 ≤ n)
    obtain rfl : bad = false := by simpa using h1
    rw [Int.toNat_natCast]
    exact rtake_c A c l S k w h hc hm hl (by omega)

theorem nm_tk (k : Int) (l : List UInt8) (bad : Bool) (hk : 1 ≤ k ∧ k ≤ 8) : nm k l bad = ⟨[], be (tk k l bad).got, (tk k l bad).left, (tk k l bad).bad⟩ := by
  unfold nm tk
  by_cases h : bad = true ∨ (l.length : Int) < k
  · rw [if_pos (by rcases h with h | h; exact .inl h; exact .inr (.inr h)), if_pos (by rcases h with h | h; exact .inl h; exact .inr (.inr h))]
    rfl
  · simp only [not_or] at h
    rw [if_neg (by simp only [not_or, Classical.not_not]; exact ⟨h.1, hk, h.2⟩), if_neg (by simp only [not_or]; exact ⟨h.1, by omega, h.2⟩)]
theorem tk_got (k : Int) (l : List UInt8) (bad : Bool) (hk : k ≤ 8) : (tk k l bad).got.length ≤ 8 := by
  unfold tk Tk.no
  split
  · simp
  · simp only [List.length_take]; omega

set_option maxHeartbeats 1000000 in
theorem rnum_bad (A : Option Addr) (c : Nat) (l : List UInt8) (bad : Bool) (k : Int) (w : World) (hb : -9223372036854775808 ≤ k ∧ k ≤ 9223372036854775807) (hk : ¬ (1 ≤ k ∧ k ≤ 8)) :
    Calls Try.prog 41 #[.agg #[.slice A l.length c, .bool bad], .int .i64 k] w fun e w' => e = .returned (.tuple #[.agg #[.slice none 0 0, .bool true], .int .u64 0]) ∧ Ext w w' := by
  obtain ⟨hb1, hb2⟩ := hb
  have hk' : k < 1 ∨ (1 ≤ k ∧ 8 < k) := by omega
  clear hk
  rcases hk' with h1 | ⟨h1, h2⟩
  all_goals
    go_enter Try.func41, Try.ntmps41
    go_wp2_with fail
    refine (rfail_c _).mono ?_
    rintro e w1 ⟨rfl, hx⟩
    have hd := hx.get (two_new _ _ _).2
    have c0 : w1.cell? ⟨w.heap.size + 1, 0, none⟩ = some (.slice none 0 0) := cells_of hd 0
    have c1 : w1.cell? ⟨w.heap.size + 1, 1, none⟩ = some (.bool false) := cells_of hd 1
    have f0 : w1.frozen? ⟨w.heap.size + 1, 0, none⟩ = false := free_of hd 0
    have f1 : w1.frozen? ⟨w.heap.size + 1, 1, none⟩ = false := free_of hd 1
    have hx0 : Ext w w1 := ((Ext.alloc _ _).tr (Ext.alloc _ _)).tr hx
    have HX := Lib.hid hx0
    have HD := Lib.hid hd
    clear hx hx0 hd
    go_wp2_with fail
    have q1 := set_of HD.out 0 (.slice none 0 0)
    have q2 := set_of q1 1 (.bool true)
    have e1 := cells_of q2 0
    have e2 := cells_of q2 1
    simp at e1 e2
    refine bodyPost_ret (v := .tuple #[.agg #[.slice none 0 0, .bool true], .int .u64 0]) (by simp [results, Try.results41, go_sem, e1, e2]) rfl ⟨rfl, ?_⟩
    repeat (first | exact HX.out | refine Below.setCell ?_ (by simp) _)

theorem mul_step (x b : Nat) (hx : x < 72057594037927936) (hb : b < 256) : IntKind.u64.wrap (IntKind.u64.wrap ((x : Int) * 256) + IntKind.u64.wrap (b : Int)) = ((x * 256 + b : Nat) : Int) := by
  have e1 : IntKind.u64.wrap ((x : Int) * 256) = ((x * 256 : Nat) : Int) := by rw [IntKind.wrap_u64]; omega
  have e2 : IntKind.u64.wrap (b : Int) = (b : Int) := by rw [IntKind.wrap_u64]; omega
  rw [e1, e2, IntKind.wrap_u64]
  omega

set_option maxHeartbeats 1000000 in
theorem rnum_any (A : Option Addr) (c : Nat) (l : List UInt8) (bad : Bool) (S : Nat → TypeId → Prop) (k : Int) (w : World) (h : RB w S A l) (hS : ∀ g t, S g t → g < w.heap.size) (hc : l.length ≤ c) (hm : c ≤ maxLen) (hl : l.length ≤ 140737488355328) (hb : -9223372036854775808 ≤ k ∧ k ≤ 9223372036854775807) :
    Calls Try.prog 41 #[.agg #[.slice A l.length c, .bool bad], .int .i64 k] w fun e w' => ∃ A1 c1, e = .returned (.tuple #[.agg #[.slice A1 (nm k l bad).left.length c1, .bool (nm k l bad).bad], .int .u64 (nm k l bad).num]) ∧
      RB w' S A1 (nm k l bad).left ∧ (nm k l bad).left.length ≤ c1 ∧ c1 ≤ maxLen ∧ Ext w w' := by
  by_cases hk : 1 ≤ k ∧ k ≤ 8
  · rw [nm_tk k l bad hk]
    have hgl := tk_got k l bad hk.2
    obtain ⟨t, ht⟩ : ∃ t, t = tk k l bad := ⟨_, rfl⟩
    rw [← ht] at hgl ⊢
    have HT := Lib.hid ht
    have H := Lib.hid h
    have HB := Lib.hid hb
    have HM := Lib.hid hm
    obtain ⟨hk1, hk2⟩ := hk
    clear ht h hb hm
    go_enter Try.func41, Try.ntmps41
    go_wp2_with fail
    have x0 : Ext w ((w.alloc (.cells #[.slice A l.length c, .bool bad] 41)).alloc (.cells #[.slice none 0 0, .bool false] 41)) := (Ext.alloc _ _).tr (Ext.alloc _ _)
    refine (rtake_any A c l bad S k _ (H.out.ext x0) hc HM.out hl HB.out).mono ?_
    rintro e w1 ⟨A1, c1, A2, c2, rfl, hr1, h11, h12, ho1, hx1⟩
    rw [← HT.out] at hr1 h11 ho1 ⊢
    have d0 := hx1.get (two_new w (.cells #[.slice A l.length c, .bool bad] 41) (.cells #[.slice none 0 0, .bool false] 41)).2
    have HR1 := Lib.hid hr1
    have HO1 := Lib.hid ho1
    have H12 := Lib.hid h12
    have X1 := Lib.hid (x0.tr hx1)
    have D0 := Lib.hid d0
    clear hr1 ho1 h12 hx1 x0 d0
    go_wp2_with fail
    obtain ⟨W, hW⟩ : ∃ W, W = w1.alloc (.cells #[.slice A1 t.left.length c1, .bool t.bad] 41) := ⟨_, rfl⟩
    have d6 : W.heap[w1.heap.size]? = some (.cells #[.slice A1 t.left.length c1, .bool t.bad] 41 (0, 0)) := by rw [hW]; exact new_of _ _
    have hxW : Ext w1 W := by rw [hW]; exact Ext.alloc _ _
    rw [← hW]
    have d4 := hxW.get D0.out
    have c60 := cells_of d6 0
    have c61 := cells_of d6 1
    have c40 := cells_of d4 0
    have c41 := cells_of d4 1
    have f40 := free_of d4 0
    have f41 := free_of d4 1
    simp at c60 c61 c40 c41
    have XW := Lib.hid hxW
    have D4 := Lib.hid d4
    have hlt4 := lt_of_some D0.out
    clear hW d6 hxW d4
    go_loop [8, 9] (fun x i => ∃ j : Nat, j ≤ t.got.length ∧ i = .int .i64 j ∧ x = .int .u64 (be (t.got.take j))) (fun _ i => t.got.length - (intOf i).toNat)
    case atStart => exact ⟨0, Nat.zero_le _, rfl, rfl⟩
    case round =>
      obtain ⟨j, hj, rfl, rfl⟩ := hrel
      by_cases hlt : j < t.got.length
      · obtain ⟨g', off', hA2, hc'⟩ := ((HO1.out.rb).ext XW.out).cell hlt
        subst hA2
        have hbt := be_take_lt t.got j (by omega)
        have hs := Lib.hid (be_take t.got j hlt)
        have hu := u8_lt t.got[j]
        go_wp2_with fail
        go_round
        case rel => exact ⟨j + 1, by omega, by go_num, by rw [hs.out]; go_num⟩
        case measure => simp [intOf]; omega
      · obtain rfl : j = t.got.length := by omega
        rw [List.take_length]
        go_wp2_with fail
        have q1 := set_of D4.out 0 (.slice A1 t.left.length c1)
        have q2 := set_of q1 1 (.bool t.bad)
        have e1 := cells_of q2 0
        have e2 := cells_of q2 1
        simp at e1 e2
        have hgW : W.grownBy ((W.setCell ⟨w.heap.size + 1, 0, none⟩ (.slice A1 t.left.length c1)).setCell ⟨w.heap.size + 1, 1, none⟩ (.bool t.bad)) (some (w.heap.size + 1)) := grown_tr (grown_set _ rfl _) (grown_set _ rfl _)
        have xf := grown_new (X1.out.tr XW.out) hgW (fun g hg => by simp at hg; omega)
        refine bodyPost_ret (v := .tuple #[.agg #[.slice A1 t.left.length c1, .bool t.bad], .int .u64 (be t.got)]) (by simp [results, Try.results41, go_sem, e1, e2]) rfl ⟨A1, c1, rfl, (HR1.out.ext XW.out).grown hgW (fun g t hs hg => by have := hS g t hs; simp at hg; omega), h11, H12.out, xf⟩
  · exact (rnum_bad A c l bad k w hb hk).mono fun e w' ⟨he, hx⟩ => ⟨none, 0, by unfold nm; rw [if_pos (.inr (.inl hk))]; exact he, by unfold nm; rw [if_pos (.inr (.inl hk))]; exact RB.nil _ _ _, by unfold nm; rw [if_pos (.inr (.inl hk))]; simp [Tk.no], by simp [maxLen], hx⟩


theorem st_nm (k : Int) (l : List UInt8) (bad : Bool) :
    ((nm k l bad).bad = true ∨ ((nm k l bad).left.length : Int) < (nm k l bad).num → st k l bad = .no) ∧
    ((nm k l bad).bad = false → (nm k l bad).num ≤ (nm k l bad).left.length → st k l bad = tk ((nm k l bad).num : Nat) (nm k l bad).left false) := by
  unfold nm
  by_cases h : bad = true ∨ ¬ (1 ≤ k ∧ k ≤ 8) ∨ (l.length : Int) < k
  · rw [if_pos h]
    refine ⟨fun _ => ?_, fun h' => by cases h'⟩
    unfold st
    rw [if_pos (by rcases h with h | h | h; exact .inl h; exact .inr (.inl h); exact .inr (.inr (.inl h)))]
  · rw [if_neg h]
    simp only [not_or] at h
    obtain ⟨h1, h2, h3⟩ := h
    refine ⟨fun h' => ?_, fun _ h' => ?_⟩
    · unfold st
      rw [if_pos ?_]
      rcases h' with h' | h'
      · cases h'
      · right; right; right
        simp only [List.length_drop] at h'
        omega
    · simp only [List.length_drop] at h'
      unfold st tk
      rw [if_neg (by simp only [not_or]; exact ⟨h1, h2, h3, by omega⟩), if_neg (by simp only [not_or, List.length_drop]; exact ⟨by simp, by omega, by omega⟩), Int.toNat_natCast]

set_option maxHeartbeats 1000000 in
theorem rstr_any (A : Option Addr) (c : Nat) (l : List UInt8) (bad : Bool) (S : Nat → TypeId → Prop) (k : Int) (w : World) (h : RB w S A l) (hS : ∀ g t, S g t → g < w.heap.size) (hc : l.length ≤ c) (hm : c ≤ maxLen) (hl : l.length ≤ 140737488355328) (hb : -9223372036854775808 ≤ k ∧ k ≤ 9223372036854775807) :
    Calls Try.prog 40 #[.agg #[.slice A l.length c, .bool bad], .int .i64 k] w fun e w' => ∃ A1 c1 A2 c2, e = .returned (.tuple #[.agg #[.slice A1 (st k l bad).left.length c1, .bool (st k l bad).bad], .slice A2 (st k l bad).got.length c2]) ∧
      RB w' S A1 (st k l bad).left ∧ (st k l bad).left.length ≤ c1 ∧ c1 ≤ maxLen ∧ OwnB w' 5 w.heap.size A2 c2 (st k l bad).got ∧ Ext w w' := by
  have HS := Lib.hid hS
  obtain ⟨hst1, hst2⟩ := st_nm k l bad
  have hnl := nm_len k l bad
  have hnt := nm_lt k l bad
  obtain ⟨t, ht⟩ : ∃ t, t = nm k l bad := ⟨_, rfl⟩
  rw [← ht] at hst1 hst2 hnl hnt
  have HT := Lib.hid ht
  have H := Lib.hid h
  have HB := Lib.hid hb
  have HM := Lib.hid hm
  have HST1 := Lib.hid hst1
  have HST2 := Lib.hid hst2
  clear ht h hb hm hS hst1 hst2
  go_enter Try.func40, Try.ntmps40
  go_wp2_with fail
  have x0 : Ext w ((w.alloc (.cells #[.slice A l.length c, .bool bad] 41)).alloc (.cells #[.slice none 0 0, .bool false] 41)) := (Ext.alloc _ _).tr (Ext.alloc _ _)
  refine (rnum_any A c l bad S k _ (H.out.ext x0) (fun g t hs => Nat.lt_of_lt_of_le (HS.out g t hs) x0.size) hc HM.out hl HB.out).mono ?_
  rintro e w1 ⟨A1, c1, rfl, hr1, h11, h12, hx1⟩
  rw [← HT.out] at hr1 h11 ⊢
  have d0 := hx1.get (two_new w (.cells #[.slice A l.length c, .bool bad] 41) (.cells #[.slice none 0 0, .bool false] 41)).2
  have HR1 := Lib.hid hr1
  have H12 := Lib.hid h12
  have X1 := Lib.hid (x0.tr hx1)
  have D0 := Lib.hid d0
  clear hr1 h12 hx1 x0 d0
  have hlt4 := lt_of_some D0.out
  by_cases hbad : t.bad = true
  · have HNO := Lib.hid (HST1.out (.inl hbad))
    rw [hbad]
    clear hbad
    go_wp2_with fail
    refine (rfail_c _).mono ?_
    rintro e w2 ⟨rfl, hx2⟩
    have x12 := (Ext.alloc w1 (.cells #[.slice A1 t.left.length c1, .bool true] 41)).tr hx2
    have d4 := x12.get D0.out
    have c40 := cells_of d4 0
    have c41 := cells_of d4 1
    have f40 := free_of d4 0
    have f41 := free_of d4 1
    simp at c40 c41
    have D4 := Lib.hid d4
    have X2 := Lib.hid (X1.out.tr x12)
    clear d4 hx2 x12
    go_wp2_with fail
    have q1 := set_of D4.out 0 (.slice none 0 0)
    have q2 := set_of q1 1 (.bool true)
    have e1 := cells_of q2 0
    have e2 := cells_of q2 1
    simp at e1 e2
    have hg2 : w2.grownBy ((w2.setCell ⟨w.heap.size + 1, 0, none⟩ (.slice none 0 0)).setCell ⟨w.heap.size + 1, 1, none⟩ (.bool true)) (some (w.heap.size + 1)) := grown_tr (grown_set _ rfl _) (grown_set _ rfl _)
    have xf := grown_new X2.out hg2 (fun g hg => by simp at hg; omega)
    rw [HNO.out]
    exact bodyPost_ret (v := .tuple #[.agg #[.slice none 0 0, .bool true], .slice none 0 0]) (by simp [results, Try.results40, go_sem, e1, e2]) rfl ⟨none, 0, none, 0, rfl, RB.nil _ _ _, by simp [Tk.no], by simp [maxLen], OwnB.nil _ _ _, xf⟩
  · have hbf : t.bad = false := by simpa using hbad
    by_cases hbig : (t.left.length : Int) < t.num
    · have HNO := Lib.hid (HST1.out (.inr hbig))
      rw [hbf]
      clear hbad hbf
      go_wp2_with fail
      refine (rfail_c _).mono ?_
      rintro e w2 ⟨rfl, hx2⟩
      have x12 := (Ext.alloc w1 (.cells #[.slice A1 t.left.length c1, .bool false] 41)).tr hx2
      have d4 := x12.get D0.out
      have c40 := cells_of d4 0
      have c41 := cells_of d4 1
      have f40 := free_of d4 0
      have f41 := free_of d4 1
      simp at c40 c41
      have D4 := Lib.hid d4
      have X2 := Lib.hid (X1.out.tr x12)
      clear d4 hx2 x12
      go_wp2_with fail
      have q1 := set_of D4.out 0 (.slice none 0 0)
      have q2 := set_of q1 1 (.bool true)
      have e1 := cells_of q2 0
      have e2 := cells_of q2 1
      simp at e1 e2
      have hg2 : w2.grownBy ((w2.setCell ⟨w.heap.size + 1, 0, none⟩ (.slice none 0 0)).setCell ⟨w.heap.size + 1, 1, none⟩ (.bool true)) (some (w.heap.size + 1)) := grown_tr (grown_set _ rfl _) (grown_set _ rfl _)
      have xf := grown_new X2.out hg2 (fun g hg => by simp at hg; omega)
      rw [HNO.out]
      exact bodyPost_ret (v := .tuple #[.agg #[.slice none 0 0, .bool true], .slice none 0 0]) (by simp [results, Try.results40, go_sem, e1, e2]) rfl ⟨none, 0, none, 0, rfl, RB.nil _ _ _, by simp [Tk.no], by simp [maxLen], OwnB.nil _ _ _, xf⟩
    · have HIN := Lib.hid (HST2.out hbf (by omega))
      rw [hbf]
      clear hbad hbf
      have hb64 : (t.num : Int) ≤ 9223372036854775807 := by omega
      go_wp2_with fail
      have xa := Ext.alloc w1 (.cells #[.slice A1 t.left.length c1, .bool false] 41)
      have XA := Lib.hid xa
      clear xa
      refine (rtake_any A1 c1 t.left false S (t.num : Nat) _ (HR1.out.ext XA.out) h11 H12.out (by omega) ⟨by omega, hb64⟩).mono ?_
      rintro e w2 ⟨A2, c2, A3, c3, rfl, hr2, h21, h22, ho2, hx2⟩
      obtain ⟨q, hq⟩ : ∃ q, q = tk (t.num : Nat) t.left false := ⟨_, rfl⟩
      rw [← hq] at hr2 h21 ho2 ⊢
      have HQ := Lib.hid hq
      have HR2 := Lib.hid hr2
      have HO2 := Lib.hid ho2
      have H22 := Lib.hid h22
      have x12 := XA.out.tr hx2
      have d4 := x12.get D0.out
      have c40 := cells_of d4 0
      have c41 := cells_of d4 1
      have f40 := free_of d4 0
      have f41 := free_of d4 1
      simp at c40 c41
      have D4 := Lib.hid d4
      have X2 := Lib.hid (X1.out.tr x12)
      have hsz := (X1.out.tr XA.out).size
      clear d4 hx2 x12 hq hr2 ho2 h22
      go_wp2_with fail
      have q1 := set_of D4.out 0 (.slice A2 q.left.length c2)
      have q2 := set_of q1 1 (.bool q.bad)
      have e1 := cells_of q2 0
      have e2 := cells_of q2 1
      simp at e1 e2
      have hg2 : w2.grownBy ((w2.setCell ⟨w.heap.size + 1, 0, none⟩ (.slice A2 q.left.length c2)).setCell ⟨w.heap.size + 1, 1, none⟩ (.bool q.bad)) (some (w.heap.size + 1)) := grown_tr (grown_set _ rfl _) (grown_set _ rfl _)
      have xf := grown_new X2.out hg2 (fun g hg => by simp at hg; omega)
      rw [HIN.out, ← HQ.out]
      exact bodyPost_ret (v := .tuple #[.agg #[.slice A2 q.left.length c2, .bool q.bad], .slice A3 q.got.length c3]) (by simp [results, Try.results40, go_sem, e1, e2]) rfl
        ⟨A2, c2, A3, c3, rfl, HR2.out.grown hg2 (fun g t hs hg => by have := HS.out g t hs; simp at hg; omega), h21, H22.out, (HO2.out.less hsz).far hg2 D4.out (by decide), xf⟩
end Go.Proofs.Ytgbdckiojjmncaa
